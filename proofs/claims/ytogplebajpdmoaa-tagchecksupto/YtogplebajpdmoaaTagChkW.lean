/- The walk of TagChecks. -/
import Derived.Test.YtogplebajpdmoaaBX
import Derived.Test.YtogplebajpdmoaaBV
import Derived.Test.YtogplebajpdmoaaBX
import Derived.Test.YtogplebajpdmoaaBX
import Derived.Test.YtogplebajpdmoaaBX
namespace Go.Proofs.Ytogplebajpdmoaa.tagChecks
open Go.RowKit Go.Joins
set_option linter.unusedVariables false
set_option linter.unusedSimpArgs false

/-- Two arrays of bytes that are unlike. -/
theorem equal_no (d : Nat) (zs ys : List Int) (hl : zs.length = 16) (hm : ys.length = 16) (hne : zs ≠ ys) (w : World) : (Op.equalIn (d + 2) 47 (.agg (u8s zs).toArray) (.agg (u8s ys).toArray)).run Try.prog w = .ok false w := by
  have hsz : ∀ w, (sizeOf 5).run Try.prog w = .ok 1 w := fun w => by
    have h := infoByte
    cases hq : Try.prog.info? 5 with
    | none => simp [hq] at h
    | some i => simp [hq] at h; simp [sizeOf, typeInfo, hq, h.2]
  have ht := Try.underlying47
  have he := Try.underlying5
  rw [Op.equalIn]
  simp only [Sem.run_bind, run_underlying ht, Result.andThen_ok, hsz, Std.Legacy.Range.forIn_eq_forIn_range', Std.Legacy.Range.size, Nat.sub_zero, Nat.add_sub_cancel, Nat.div_one]
  have hlr : ∀ i ∈ List.range' 0 16 1, i < 16 := fun i hi => by simpa using (List.mem_range'_1.1 hi).2
  have hex : ∃ i ∈ List.range' 0 16 1, zs.getD i 0 ≠ ys.getD i 0 := by
    apply Classical.byContradiction
    intro hno
    refine hne (List.ext_getElem (by rw [hl, hm]) fun i h1 h2 => ?_)
    have := Classical.not_not.1 fun h => hno ⟨i, List.mem_range'_1.2 ⟨by omega, by omega⟩, h⟩
    simpa [List.getD, h1, h2] using this
  generalize List.range' 0 16 1 = l at hlr hex ⊢
  induction l with
  | nil => obtain ⟨i, hi, _⟩ := hex; cases hi
  | cons i l ih =>
    have hi : i < 16 := hlr i (by simp)
    have px : (Go.part 5 (u8s zs).toArray (i * 1)).run Try.prog w = .ok (.int .u8 (zs.getD i 0)) w := by
      simp [Go.part, isAgg, run_underlying he, u8s, List.getD, List.getElem?_eq_getElem (show i < zs.length by omega)]
    have py : (Go.part 5 (u8s ys).toArray (i * 1)).run Try.prog w = .ok (.int .u8 (ys.getD i 0)) w := by
      simp [Go.part, isAgg, run_underlying he, u8s, List.getD, List.getElem?_eq_getElem (show i < ys.length by omega)]
    by_cases hxy : zs.getD i 0 = ys.getD i 0
    · have pe : (Op.equalIn (d + 1) 5 (.int .u8 (zs.getD i 0)) (.int .u8 (ys.getD i 0))).run Try.prog w = .ok true w := by
        rw [run_equalIn_int w d 5 .u8 .u8 _ _ he, hxy]; simp
      simp only [List.forIn_cons, Sem.run_bind, px, py, pe, Result.andThen_ok]
      simp only [Bool.not_true, Bool.false_eq_true, if_false, Sem.run_pure, Result.andThen_ok]
      refine ih (fun j hj => hlr j (by simp [hj])) ?_
      obtain ⟨j, hj, hd⟩ := hex
      rcases List.mem_cons.1 hj with rfl | hj
      · exact absurd hxy hd
      · exact ⟨j, hj, hd⟩
    · have pe : (Op.equalIn (d + 1) 5 (.int .u8 (zs.getD i 0)) (.int .u8 (ys.getD i 0))).run Try.prog w = .ok false w := by
        rw [run_equalIn_int w d 5 .u8 .u8 _ _ he, show (zs.getD i 0 == ys.getD i 0) = false by rw [beq_eq_false_iff_ne]; exact hxy]
      simp only [List.forIn_cons, Sem.run_bind, px, py, pe, Result.andThen_ok]
      simp
theorem equal_dec (d : Nat) (zs ys : List Int) (hl : zs.length = 16) (hm : ys.length = 16) (w : World) : (Op.equalIn (d + 2) 47 (.agg (u8s zs).toArray) (.agg (u8s ys).toArray)).run Try.prog w = .ok (decide (ys = zs)) w := by
  by_cases h : ys = zs
  · subst h
    rw [equal_self d ys hl w]; simp
  · rw [equal_no d zs ys hl hm (fun e => h e.symm) w]; simp [h]
theorem xor_ne (a b : Int) (ha : 0 ≤ a ∧ a < 256) (hb : 0 ≤ b ∧ b < 256) : bits .xor .u8 a (bits .or .u8 b 1) ≠ a ∧ (0 ≤ bits .xor .u8 a (bits .or .u8 b 1) ∧ bits .xor .u8 a (bits .or .u8 b 1) < 256) := by
  have ho : bits .or .u8 b 1 = ((b.toNat ||| 1 : Nat) : Int) := u8_or b 1 hb.1 hb.2 (by decide) (by decide)
  have h1 : b.toNat ||| 1 < 2 ^ 8 := Nat.or_lt_two_pow (by omega) (by decide)
  have h0 : (b.toNat ||| 1) ≠ 0 := by
    intro h
    have := Nat.right_le_or (n := b.toNat) (m := 1)
    omega
  rw [ho, u8_xor a _ ha.1 ha.2 (by omega) (by omega), Int.toNat_natCast]
  generalize b.toNat ||| 1 = q at *
  have h2 : a.toNat ^^^ q < 2 ^ 8 := Nat.xor_lt_two_pow (by omega) h1
  refine ⟨fun h => h0 ?_, by omega, by omega⟩
  have h3 : a.toNat ^^^ q = a.toNat := by omega
  have h4 : a.toNat ^^^ (a.toNat ^^^ q) = a.toNat ^^^ a.toNat := by rw [h3]
  rwa [← Nat.xor_assoc, Nat.xor_self, Nat.zero_xor] at h4
theorem set_ne (T : List Int) (i : Nat) (z : Int) (hi : i < T.length) (hz : z ≠ T.getD i 0) : T ≠ T.set i z := fun h => hz (by
  have : (T.set i z).getD i 0 = z := by simp [List.getD, hi]
  rw [← this, ← h])
theorem set2_ne (T : List Int) (i j : Nat) (z y : Int) (hi : i < T.length) (hij : j ≠ i) (hz : z ≠ T.getD i 0) : T ≠ (T.set i z).set j y := fun h => hz (by
  have : ((T.set i z).set j y).getD i 0 = z := by simp [List.getD, hi, hij]
  rw [← this, ← h])
theorem bytes_set (zs : List Int) (k : Nat) (z : Int) (h : Bytes zs) (hz : 0 ≤ z ∧ z < 256) : Bytes (zs.set k z) := fun y hy => by
  rcases List.mem_or_eq_of_mem_set hy with h1 | rfl
  · exact h y h1
  · exact hz
theorem row_le (pss : List (List Int)) (i : Nat) (hi : i < pss.length) : (pss.getD i []).length ≤ pss.flatten.length := by
  have h := flat_succ pss i hi
  have h2 := flat_le pss (i + 1)
  rw [h, List.length_append] at h2
  omega
theorem blkAll {w : World} {g : Nat} {t : TypeId} {vs : List Value} (h : Blk w g t vs) : w.rangeAt g 0 vs := fun j v hv => by rw [Nat.zero_add, h.cell]; exact hv
def isB (zs : List Int) (v : Value) (w : World) : Prop := ∃ vo n c, v = .slice vo n c ∧ Seen w vo n zs
theorem isB_later (zs : List Int) : ∀ v w w', Below w.heap.size w w' → isB zs v w → isB zs v w' := fun _ _ _ hb ⟨b, o, c, h1, h2⟩ => ⟨b, o, c, h1, h2.later hb (Nat.le_refl _)⟩
theorem spare_kept {w w' : World} {O n G : Nat} {pss : List (List Int)} (h : SpareL w O n pss) (hk : Kept (fun x => x = G) w w') (h0 : O ≠ G) (h1 : ∀ i, i < n + 3 → O + 1 + i ≠ G) : SpareL w' O n pss :=
  ⟨h.len, h.hd.kept hk h0, fun i hi => (h.row i hi).kept hk (h1 i hi), h.ok⟩
/-- What stands through the walk. -/
structure Stands (w : World) (wr : World) (O GT n : Nat) (key oth T : List Int) (pss : List (List Int)) : Prop where
  sp : SpareL wr O n pss
  bel : Below w.heap.size w wr
  bk : Blk wr w.heap.size 30 (u8s key)
  bo : Blk wr (w.heap.size + 1) 47 (u8s oth)
  bt : Blk wr GT 47 (u8s T)
theorem Stands.later {w wr W : World} {O GT n : Nat} {key oth T : List Int} {pss : List (List Int)} (h : Stands w wr O GT n key oth T pss) (hb : Below wr.heap.size wr W) : Stands w W O GT n key oth T pss :=
  ⟨h.sp.later hb (Nat.le_refl _), below_chain h.bel hb h.bel.size, h.bk.later hb h.bk.lt, h.bo.later hb h.bo.lt, h.bt.later hb h.bt.lt⟩
set_option maxRecDepth 20000 in
set_option maxHeartbeats 4000000 in
theorem walk (key : List Int) (ao : Option Addr) (n c : Nat) (pss : List (List Int)) (oth : List Int) (w : World) (hkl : key.length = 32) (hkb : Bytes key) (hx : SeenP w ao n pss) (hn : n ≤ 1048576) (hm : pss.flatten.length ≤ 1048576) (hol : oth.length = 16) (hob : Bytes oth) :
    Calls Try.prog 10 #[.agg (u8s key).toArray, .slice ao n c, .agg (u8s oth).toArray] w fun e w' => e = .returned (.bool true) ∧ Below w.heap.size w w' := by
  obtain ⟨m, hm0⟩ : ∃ m, pss.flatten = m := ⟨_, rfl⟩
  obtain ⟨T, hT⟩ : ∃ T, tagB key m = T := ⟨_, rfl⟩
  have HK : Hid (key.length = 32 ∧ Bytes key ∧ oth.length = 16 ∧ Bytes oth) := ⟨hkl, hkb, hol, hob⟩
  have HX : Hid (SeenP w ao n pss ∧ Bytes m) := ⟨hx, by rw [← hm0]; have := seenP_bytes hx n (Nat.le_refl _); rwa [List.take_of_length_le (by rw [hx.len]; exact Nat.le_refl _)] at this⟩
  have HM : Hid (m.length ≤ 1048576 ∧ pss.length = n ∧ pss.flatten = m ∧ tagB key m = T ∧ T.length = 16 ∧ Bytes T) := ⟨by rw [← hm0]; exact hm, hx.len, hm0, hT, by rw [← hT, tagB_length], by rw [← hT]; exact tagB_bytes _ _⟩
  obtain ⟨D, hD⟩ : ∃ D, decide (T = oth) = D := ⟨_, rfl⟩
  have heq : ∀ wx, (Op.equalIn 10000 47 (.agg (u8s oth).toArray) (.agg (u8s T).toArray)).run Try.prog wx = .ok D wx := fun wx => by rw [← hD]; exact equal_dec 9998 oth T hol HM.out.2.2.2.2.1 wx
  have hDD : (D != D) = false := by cases D <;> rfl
  have HD : Hid (decide (T = oth) = D) := hD
  have HR : Hid (∀ i, i < n → (pss.getD i []).length ≤ 35184372088832) := fun i hi => by have := row_le pss i (by rw [hx.len]; exact hi); omega
  have CK : Hid (∀ (t : List Int) (W : World), t.length = 16 → Bytes t → ∀ O, SpareL W O n pss → Calls Try.prog 34 #[.agg (u8s key).toArray, .agg (u8s t).toArray, .slice (some ⟨O, 0, none⟩) n (n + 3)] W fun e w' => e = .returned (.bool (decide (T = t))) ∧ Below W.heap.size W w') := fun t W h1 h2 O hs => by
    have := tcheck_any key t HK.out.1 HK.out.2.1 h1 h2 _ n (n + 3) pss W hs.data (by omega)
    rwa [HM.out.2.2.1, HM.out.2.2.2.1] at this
  have uT : ∀ t : List Int, t.length = 16 → (Try.prog.info? 47).map (·.size) = some (u8s t).length := fun t h => by rw [u8s_length, h]; exact sizeTag
  have uK : (Try.prog.info? 30).map (·.size) = some (u8s key).length := by rw [u8s_length, HK.out.1]; exact tsizeKey
  clear hx hm hm0 hkl hkb hT hol hob hD
  go_enter Try.func10, Try.ntmps10
  go_wp2_with (first | (refine wpList_box_new rfl 30 _ rfl (u8s key) rfl ?_; intro w0 b0 s0 l0) | (refine wpList_box_new rfl 47 _ rfl (u8s oth) rfl ?_; intro w9 b9 s9 l9))
  have X0 : Hid (Blk w9 w.heap.size 30 (u8s key) ∧ Blk w9 (w.heap.size + 1) 47 (u8s oth) ∧ Below w.heap.size w w9) := by
    rw [s0] at b9
    exact ⟨b0.later l9 (by omega), b9, below_chain l0 l9 (by omega)⟩
  have e9 : w9.heap.size = w.heap.size + 1 + 1 := by omega
  refine (spareR_any ao n c pss w9 (HX.out.1.later X0.out.2.2 (Nat.le_refl _)) hn HR.out).mono ?_
  rw [e9]
  rintro e w1 ⟨rfl, x1, s1, l1⟩
  obtain ⟨O, hO⟩ : ∃ O, w.heap.size + 1 + 1 = O := ⟨_, rfl⟩
  rw [hO] at x1 l1 s1 e9 ⊢
  have hOw : w.heap.size + 1 < O := by omega
  have X1 : Hid (SpareL w1 O n pss ∧ Below w.heap.size w w1 ∧ Blk w1 w.heap.size 30 (u8s key) ∧ Blk w1 (w.heap.size + 1) 47 (u8s oth)) := ⟨x1, below_chain X0.out.2.2 l1 (by omega), X0.out.1.later l1 (by omega), X0.out.2.1.later l1 (by omega)⟩
  clear x1 l1 b0 l0 s0 b9 s9 l9 hO X0 s1 e9
  go_wp2_with fail
  try simp only [Act.put, List.setIfInBounds_toArray, List.set_cons_zero, List.set_cons_succ]
  refine region_inv [.val (.agg (u8s key).toArray), .val (.slice ao n c), .any (isB m) (isB_later _), .val (.agg (u8s T).toArray), .blk 47 (u8s (zs0 16))] (by kernel_rfl) (by kernel_rfl) (by kernel_rfl) ?_ ?_
  · refine Steps'.cons ?_ (Steps'.cons ?_ (Steps'.cons ?_ (Steps'.cons ?_ (Steps'.cons ?_ (Steps'.one _ _ _ _ _ _ _)))))
    · intro ax wx hb hs hd
      have h3 : ax.tmps.getD 3 undef = (.pointer (some ⟨w.heap.size, 0, none⟩)) := hs 3 (by kernel_rfl)
      exact Does.load 30 (.tmp 3) rfl w.heap.size 0 h3 (u8s key) _ (blkAll (X1.out.2.2.1.later hb X1.out.2.2.1.lt)) Try.underlying30 rfl uK
    · intro ax wx hb hs hd
      have h1 : ax.tmps.getD 1 undef = (.slice ao n c) := hs 1 (by kernel_rfl)
      refine Does.value (.slice ao n c) ?_ rfl
      go_simp
    · intro ax wx hb hs hd
      have h14 : ax.tmps.getD 14 undef = (.slice ao n c) := hd 1 14 rfl (by kernel_rfl) (by decide)
      refine Does.call 30 #[(.slice ao n c)] (by go_simp) ?_
      have L := below_chain X1.out.2.1 hb X1.out.2.1.size
      refine (join_any ao n c pss wx (HX.out.1.later L (Nat.le_refl _)) (by omega) (by rw [HM.out.2.2.1]; have := HM.out.1; omega)).mono ?_
      rintro e wA ⟨vA, rfl, oA, lA⟩
      rw [HM.out.2.2.1] at oA
      obtain ⟨xA, cA, rfl, sA, _⟩ := own_data HX.out.2 (by have := HM.out.1; omega) oA
      exact ⟨_, rfl, ⟨xA, _, cA, rfl, sA⟩, lA⟩
    · intro ax wx hb hs hd
      have h13 : ax.tmps.getD 13 undef = (.agg (u8s key).toArray) := hd 0 13 rfl (by kernel_rfl) (by decide)
      obtain ⟨x, n', c', h15, s15⟩ : isB m (ax.tmps.getD 15 undef) wx := hd 2 15 rfl (by kernel_rfl) (by decide)
      refine Does.call 29 #[(.agg (u8s key).toArray), .slice x n' c'] (by go_simp) ?_
      have q := rtsum_any key HK.out.1 HK.out.2.1 x n' c' m wx s15
      rw [HM.out.2.2.2.1] at q
      refine q.mono ?_
      rintro e w' ⟨rfl, l⟩
      exact ⟨_, rfl, rfl, l⟩
    · intro ax wx hb hs hd
      exact Does.alloc 47 rfl 16 _ zeroTag hb.size
  · intro wx hb
    refine @Ends.val _ _ _ _ _ _ _ _ _ (.agg (u8s key).toArray) rfl ?_
    refine @Ends.val _ _ _ _ _ _ _ _ _ (.slice ao n c) rfl ?_
    refine @Ends.any _ _ _ _ _ _ _ _ _ (isB m) (isB_later _) rfl ?_
    intro v2 p2
    refine @Ends.val _ _ _ _ _ _ _ _ _ (.agg (u8s T).toArray) rfl ?_
    refine @Ends.blk _ _ _ _ _ _ _ _ _ 47 (u8s (zs0 16)) rfl ?_
    intro g4 hg4 bg4
    refine @Ends.one _ _ _ _ _ _ _ ?_
    simp only [Act.put, List.setIfInBounds_toArray, List.set_cons_zero, List.set_cons_succ]
    refine last_store 47 (.tmp 8) (.tmp 16) rfl rfl g4 rfl 47 _ (u8s T) rfl bg4 (by rw [u8s_length, HM.out.2.2.2.2.1]; rfl) (uT T HM.out.2.2.2.2.1) (u8s_one _) ?_
    intro w4 b4 s4 k4
    have ST : Hid (Stands w w4 O g4 n key oth T pss) := by
      have L := below_kept hb k4 hb.size (fun j hj => by omega)
      exact ⟨X1.out.1.later L (Nat.le_refl _), below_chain X1.out.2.1 L X1.out.2.1.size, X1.out.2.2.1.later L X1.out.2.2.1.lt, X1.out.2.2.2.later L X1.out.2.2.2.lt, b4⟩
    clear hb bg4 hg4 b4 s4 k4 X1
    go_wp2_with fail
    have RS : Hid (∀ W, Below w4.heap.size w4 W → W.rangeAt w.heap.size 0 (u8s key) ∧ W.rangeAt g4 0 (u8s T) ∧ W.rangeAt (w.heap.size + 1) 0 (u8s oth)) := fun W hW => ⟨blkAll (ST.out.later hW).bk, blkAll (ST.out.later hW).bt, blkAll (ST.out.later hW).bo⟩
    refine wp_region_noPanic (wp_region_held_drew (S := fun W => W.rangeAt w.heap.size 0 (u8s key) ∧ W.rangeAt g4 0 (u8s T) ∧ W.rangeAt (w.heap.size + 1) 0 (u8s oth)) (by kernel_rfl) (RS.out _ (below_dn (Below.refl _ _) 1)) (fun hH => ?_))
    refine hLoad 0 (some 17) (u8s key) rfl rfl (by kernel_rfl) (by kernel_rfl) (by kernel_rfl) (fun _ _ _ h => h) (by rfl) 30 (.tmp 3) rfl w.heap.size 0 rfl _ (fun _ h => h.1) Try.underlying30 rfl uK hH ?_
    simp only [Act.put, List.setIfInBounds_toArray, List.set_cons_zero, List.set_cons_succ]
    refine hLoad 1 (some 18) (u8s T) rfl rfl (by kernel_rfl) (by kernel_rfl) (by kernel_rfl) (fun _ _ _ h => h) (by rfl) 47 (.tmp 8) rfl g4 0 rfl _ (fun _ h => h.2.1) Try.underlying47 rfl (uT T HM.out.2.2.2.2.1) hH ?_
    simp only [Act.put, List.setIfInBounds_toArray, List.set_cons_zero, List.set_cons_succ]
    refine hTake 2 (some 19) (.slice (some ⟨O, 0, none⟩) n (n + 3)) rfl rfl (by kernel_rfl) (by kernel_rfl) (by kernel_rfl) (fun _ _ _ h => h) (by rfl) (fun _ _ => by rfl) hH ?_
    simp only [Act.put, List.setIfInBounds_toArray, List.set_cons_zero, List.set_cons_succ]
    refine wpAnyH_ready (rs := [3]) (by kernel_rfl) (by simp) (AllReadyH.cons rfl (fun K hK => ?_) AllReadyH.nil)
    rw [if_pos (by rfl)]
    go_simp
    go_wp2_with (go_at_call 34; refine (CK.out T w4.drew HM.out.2.2.2.2.1 HM.out.2.2.2.2.2 O (ST.out.later (below_dn (Below.refl w4.heap.size w4) 1)).sp).mono ?_; rintro e wA ⟨rfl, lA⟩; rw [decide_eq_true (rfl : T = T)]; have GA : Hid (Below w4.heap.size w4 wA) := below_chain (below_dn (Below.refl w4.heap.size w4) 1) lA (Nat.le_refl _); clear lA)
    refine hK.out _ _ (RS.out _ (GA.out)) (fun hH => ?_)
    clear hK K
    refine hTake 4 (some 21) (.bool false) rfl rfl (by kernel_rfl) (by kernel_rfl) (by kernel_rfl) (fun _ _ _ h => h) (by rfl) (fun _ _ => by go_simp) hH ?_
    simp only [Act.put, List.setIfInBounds_toArray, List.set_cons_zero, List.set_cons_succ]
    refine hTake 5 (some 22) (.bool false) rfl rfl (by kernel_rfl) (by kernel_rfl) (by kernel_rfl) (fun _ _ _ h => h) (by rfl) (fun _ _ => by rfl) hH ?_
    simp only [Act.put, List.setIfInBounds_toArray, List.set_cons_zero, List.set_cons_succ]
    refine hLoad 6 (some 23) (u8s key) rfl rfl (by kernel_rfl) (by kernel_rfl) (by kernel_rfl) (fun _ _ _ h => h) (by rfl) 30 (.tmp 3) rfl w.heap.size 0 rfl _ (fun _ h => h.1) Try.underlying30 rfl uK hH ?_
    simp only [Act.put, List.setIfInBounds_toArray, List.set_cons_zero, List.set_cons_succ]
    refine hLoad 7 (some 24) (u8s oth) rfl rfl (by kernel_rfl) (by kernel_rfl) (by kernel_rfl) (fun _ _ _ h => h) (by rfl) 47 (.tmp 5) rfl (w.heap.size + 1) 0 rfl _ (fun _ h => h.2.2) Try.underlying47 rfl (uT oth HK.out.2.2.1) hH ?_
    simp only [Act.put, List.setIfInBounds_toArray, List.set_cons_zero, List.set_cons_succ]
    refine hTake 8 (some 25) (.slice (some ⟨O, 0, none⟩) n (n + 3)) rfl rfl (by kernel_rfl) (by kernel_rfl) (by kernel_rfl) (fun _ _ _ h => h) (by rfl) (fun _ _ => by rfl) hH ?_
    simp only [Act.put, List.setIfInBounds_toArray, List.set_cons_zero, List.set_cons_succ]
    refine hLoad 10 (some 27) (u8s oth) rfl rfl (by kernel_rfl) (by kernel_rfl) (by kernel_rfl) (fun _ _ _ h => h) (by rfl) 47 (.tmp 5) rfl (w.heap.size + 1) 0 rfl _ (fun _ h => h.2.2) Try.underlying47 rfl (uT oth HK.out.2.2.1) hH ?_
    simp only [Act.put, List.setIfInBounds_toArray, List.set_cons_zero, List.set_cons_succ]
    refine hLoad 11 (some 28) (u8s T) rfl rfl (by kernel_rfl) (by kernel_rfl) (by kernel_rfl) (fun _ _ _ h => h) (by rfl) 47 (.tmp 8) rfl g4 0 rfl _ (fun _ h => h.2.1) Try.underlying47 rfl (uT T HM.out.2.2.2.2.1) hH ?_
    simp only [Act.put, List.setIfInBounds_toArray, List.set_cons_zero, List.set_cons_succ]
    refine hTake 12 (some 29) (.bool D) rfl rfl (by kernel_rfl) (by kernel_rfl) (by kernel_rfl) (fun _ _ _ h => h) (by rfl) (fun _ _ => by go_simp) hH ?_
    simp only [Act.put, List.setIfInBounds_toArray, List.set_cons_zero, List.set_cons_succ]
    refine wpAnyH_ready (rs := [9]) (by kernel_rfl) (by simp) (AllReadyH.cons rfl (fun K hK => ?_) AllReadyH.nil)
    rw [if_pos (by rfl)]
    go_simp
    go_wp2_with (go_at_call 34; refine (CK.out oth wA HK.out.2.2.1 HK.out.2.2.2 O (ST.out.later GA.out).sp).mono ?_; rintro e wB ⟨rfl, lB⟩; rw [HD.out]; have GB : Hid (Below w4.heap.size w4 wB) := below_chain GA.out lB GA.out.size; clear lB)
    refine hK.out _ _ (RS.out _ (GB.out)) (fun hH => ?_)
    clear hK K
    refine hTake 13 (some 30) (.bool false) rfl rfl (by kernel_rfl) (by kernel_rfl) (by kernel_rfl) (fun _ _ _ h => h) (by rfl) (fun _ _ => by go_simp) hH ?_
    simp only [Act.put, List.setIfInBounds_toArray, List.set_cons_zero, List.set_cons_succ]
    refine hTake 14 (some 31) (.bool false) rfl rfl (by kernel_rfl) (by kernel_rfl) (by kernel_rfl) (fun _ _ _ h => h) (by rfl) (fun _ _ => by rfl) hH ?_
    simp only [Act.put, List.setIfInBounds_toArray, List.set_cons_zero, List.set_cons_succ]
    refine wpAnyH_done (by kernel_rfl) (NoPanic.normal ?_) _
    have S5 : Hid (Stands w wB O g4 n key oth T pss ∧ g4 < wB.heap.size) := ⟨ST.out.later GB.out, (ST.out.later GB.out).bt.lt⟩
    clear hH ST RS heq hDD HD GA GB
    go_wp2_with fail
    go_loopw [9] (fun i wr => ∃ k : Nat, k ≤ 16 ∧ i = .int .i64 k ∧ Stands w wr O g4 n key oth T pss) (fun i _ => 16 - (intOf i).toNat)
    case atStart => exact ⟨0, Nat.zero_le _, rfl, S5.out.1⟩
    case round =>
      obtain ⟨k, hk, rfl, hst⟩ := hrel
      have HS : Hid (Stands w wr O g4 n key oth T pss) := hst
      clear hst
      by_cases hlt : k < 16
      · have i1 : (0 : Int) ≤ (k : Int) := by omega
        have i2 : (k : Int) < 16 := by omega
        have hkT : k < T.length := by rw [HM.out.2.2.2.2.1]; exact hlt
        have bT := HM.out.2.2.2.2.2.at k hkT
        have bO := HK.out.2.2.2.at k (by rw [HK.out.2.2.1]; exact hlt)
        go_wp2_with (first | (refine wpList_load_blk rfl 47 _ rfl g4 rfl (u8s T) _ HS.out.bt Try.underlying47 rfl (uT T HM.out.2.2.2.2.1) ?_) | (refine wpList_alloc_new rfl 47 rfl 16 _ zeroTag ?_; intro w6 b6 s6 l6) | (refine wpList_store_blk rfl 47 47 _ _ rfl _ rfl _ (u8s T) rfl b6 (by rw [u8s_length, HM.out.2.2.2.2.1]; rfl) (uT T HM.out.2.2.2.2.1) (u8s_one _) ?_; intro w7 b7 s7 k7))
        obtain ⟨G, hG⟩ : ∃ G, wr.heap.size = G := ⟨_, rfl⟩
        have L7 : Below wr.heap.size wr w7 := below_kept l6 k7 (by omega) (fun j hj => by omega)
        have H7 : Hid (Stands w w7 O g4 n key oth T pss ∧ Blk w7 G 47 (u8s T) ∧ w.heap.size + 1 < G ∧ g4 < G ∧ (∀ i, i < n + 3 → O + 1 + i < G) ∧ O < G ∧ G < w7.heap.size) := by
          rw [← hG]
          exact ⟨HS.out.later L7, b7, HS.out.bo.lt, HS.out.bt.lt, fun i hi => (HS.out.sp.row i hi).lt, HS.out.sp.hd.lt, b7.lt⟩
        rw [hG]
        clear b6 s6 l6 b7 s7 k7 L7 hG
        have c1 := u8s_cell H7.out.2.1 k hkT
        have f1 := H7.out.2.1.frozen k
        have c2 := u8s_cell H7.out.1.bo k (by rw [HK.out.2.2.1]; exact hlt)
        have hxn := xor_ne (T.getD k 0) (oth.getD k 0) bT bO
        obtain ⟨A, hA⟩ : ∃ A, T.getD k 0 = A := ⟨_, rfl⟩
        obtain ⟨B, hB⟩ : ∃ B, oth.getD k 0 = B := ⟨_, rfl⟩
        rw [hA] at c1 bT hxn
        rw [hB] at c2 bO hxn
        have HA : Hid (T.getD k 0 = A ∧ bits .xor .u8 A (bits .or .u8 B 1) ≠ A ∧ (0 ≤ bits .xor .u8 A (bits .or .u8 B 1) ∧ bits .xor .u8 A (bits .or .u8 B 1) < 256)) := ⟨hA, hxn⟩
        clear hA hB hxn
        go_wp2_with fail
        go_region
        all_goals
          have K8 : Kept (fun x => x = G) w7 (w7.setCell ⟨G, k, none⟩ (.int .u8 (bits .xor .u8 A (bits .or .u8 B 1)))).drew := ((Kept.refl (fun x => x = G) w7).setCell (p := ⟨G, k, none⟩) rfl _).drew
          have b8 : Blk (w7.setCell ⟨G, k, none⟩ (.int .u8 (bits .xor .u8 A (bits .or .u8 B 1)))).drew G 47 (u8s (T.set k (bits .xor .u8 A (bits .or .u8 B 1)))) := by
            have := H7.out.2.1.set k (.int .u8 (bits .xor .u8 A (bits .or .u8 B 1)))
            rw [u8s_set] at this
            exact this.drew
          obtain ⟨w8, hw8⟩ : ∃ W, (w7.setCell ⟨G, k, none⟩ (.int .u8 (bits .xor .u8 A (bits .or .u8 B 1)))).drew = W := ⟨_, rfl⟩
          obtain ⟨T1, hT1⟩ : ∃ T1, T.set k (bits .xor .u8 A (bits .or .u8 B 1)) = T1 := ⟨_, rfl⟩
          rw [hw8] at K8 b8 ⊢
          rw [hT1] at b8
          have H8 : Hid (Stands w w8 O g4 n key oth T pss ∧ Blk w8 G 47 (u8s T1) ∧ T1.length = 16 ∧ Bytes T1 ∧ decide (T = T1) = false) := by
            have hh := H7.out
            refine ⟨⟨spare_kept hh.1.sp K8 (by have := hh.2.2.2.2.2.1; omega) (fun i hi => by have := hh.2.2.2.2.1 i hi; omega), below_kept hh.1.bel K8 hh.1.bel.size (fun j hj => by omega), hh.1.bk.kept K8 (by omega), hh.1.bo.kept K8 (by omega), hh.1.bt.kept K8 (by omega)⟩, b8, by rw [← hT1, List.length_set, HM.out.2.2.2.2.1], by rw [← hT1]; exact bytes_set _ _ _ HM.out.2.2.2.2.2 HA.out.2.2, ?_⟩
            rw [← hT1]
            exact decide_eq_false (set_ne T k _ hkT (by rw [HA.out.1]; exact HA.out.2.1))
          clear K8 b8 hw8 hT1
          go_wp2_with (first | (refine wpList_load_blk rfl 30 _ rfl w.heap.size rfl (u8s key) _ H8.out.1.bk Try.underlying30 rfl uK ?_) | (refine wpList_load_blk rfl 47 _ rfl G rfl (u8s T1) _ H8.out.2.1 Try.underlying47 rfl (uT T1 H8.out.2.2.1) ?_))
          refine (CK.out T1 w8 H8.out.2.2.1 H8.out.2.2.2.1 O H8.out.1.sp).mono ?_
          rintro e wA ⟨rfl, lA⟩
          rw [H8.out.2.2.2.2]
          have HA2 : Hid (Stands w wA O g4 n key oth T pss ∧ Blk wA G 47 (u8s T1)) := ⟨H8.out.1.later lA, H8.out.2.1.later lA H8.out.2.1.lt⟩
          clear lA
          obtain ⟨J, hJ⟩ : ∃ J, (k + 1) % 16 = J := ⟨_, rfl⟩
          have hJ16 : J < 16 := by omega
          have hJk : J ≠ k := by omega
          have n1 : ((k : Int) + 1).tmod 16 = (J : Int) := by rw [Int.tmod_eq_emod_of_nonneg (by omega)]; omega
          have n2 : ((k : Int) + 1) % 16 = (J : Int) := by omega
          have i3 : (0 : Int) ≤ (J : Int) := by omega
          have i4 : (J : Int) < 16 := by omega
          have hJT : J < T.length := by rw [HM.out.2.2.2.2.1]; exact hJ16
          have bE := HM.out.2.2.2.2.2.at J hJT
          obtain ⟨E, HE⟩ : ∃ E, Hid (T.getD J 0 = E) := ⟨_, rfl⟩
          rw [HE.out] at bE
          clear hJ
          go_wp2_with (first | (refine wpList_load_blk rfl 47 _ rfl g4 rfl (u8s T) _ HA2.out.1.bt Try.underlying47 rfl (uT T HM.out.2.2.2.2.1) ?_) | (refine wpList_store_blk rfl 47 47 _ _ rfl _ rfl _ (u8s T) rfl HA2.out.2 (by rw [u8s_length, u8s_length, HM.out.2.2.2.2.1, H8.out.2.2.1]) (uT T HM.out.2.2.2.2.1) (u8s_one _) ?_; intro wC bC sC kC; have cC : wC.cell? ⟨G, k, none⟩ = some (.int .u8 A) := (by rw [← HA.out.1]; exact u8s_cell bC k hkT); have fC := bC.frozen k; have bC2 : Blk (wC.setCell ⟨G, k, none⟩ (.int .u8 ((A + 1) % 256))) G 47 (u8s (T.set k ((A + 1) % 256))) := (by have := bC.set k (.int .u8 ((A + 1) % 256)); rwa [u8s_set] at this); have cJ : (wC.setCell ⟨G, k, none⟩ (.int .u8 ((A + 1) % 256))).cell? ⟨G, J, none⟩ = some (.int .u8 E) := (by have h := u8s_cell bC2 J (by rw [List.length_set]; exact hJT); rw [show (T.set k ((A + 1) % 256)).getD J 0 = E by rw [← HE.out]; simp [List.getD, Ne.symm hJk]] at h; exact h); have fJ := bC2.frozen J; have HC : Hid (Blk (wC.setCell ⟨G, k, none⟩ (.int .u8 ((A + 1) % 256))) G 47 (u8s (T.set k ((A + 1) % 256))) ∧ Kept (fun x => x = G) wA (wC.setCell ⟨G, k, none⟩ (.int .u8 ((A + 1) % 256)))) := ⟨bC2, kC.setCell (S := fun x => x = G) rfl _⟩; have K2 : Kept (fun x => x = G) wA ((wC.setCell ⟨G, k, none⟩ (.int .u8 ((A + 1) % 256))).setCell ⟨G, J, none⟩ (.int .u8 ((E - 1) % 256))) := HC.out.2.setCell (S := fun x => x = G) rfl _; have H15 : Hid (Stands w ((wC.setCell ⟨G, k, none⟩ (.int .u8 ((A + 1) % 256))).setCell ⟨G, J, none⟩ (.int .u8 ((E - 1) % 256))) O g4 n key oth T pss ∧ Blk ((wC.setCell ⟨G, k, none⟩ (.int .u8 ((A + 1) % 256))).setCell ⟨G, J, none⟩ (.int .u8 ((E - 1) % 256))) G 47 (u8s ((T.set k ((A + 1) % 256)).set J ((E - 1) % 256)))) := (by have hh := H7.out; refine ⟨⟨spare_kept HA2.out.1.sp K2 (by have := hh.2.2.2.2.2.1; omega) (fun i hi => by have := hh.2.2.2.2.1 i hi; omega), below_kept HA2.out.1.bel K2 HA2.out.1.bel.size (fun j hj => by omega), HA2.out.1.bk.kept K2 (by omega), HA2.out.1.bo.kept K2 (by omega), HA2.out.1.bt.kept K2 (by omega)⟩, ?_⟩; have h2 := HC.out.1.set J (.int .u8 ((E - 1) % 256)); rwa [u8s_set] at h2); clear bC sC kC bC2 K2) | (refine wpList_load_blk rfl 30 _ rfl w.heap.size rfl (u8s key) _ H15.out.1.bk Try.underlying30 rfl uK ?_) | (refine wpList_load_blk rfl 47 _ rfl G rfl (u8s ((T.set k ((A + 1) % 256)).set J ((E - 1) % 256))) _ H15.out.2 Try.underlying47 rfl (uT _ (by rw [List.length_set, List.length_set, HM.out.2.2.2.2.1])) ?_))
          obtain ⟨wD, hwD⟩ : ∃ W, (wC.setCell ⟨G, k, none⟩ (.int .u8 ((A + 1) % 256))).setCell ⟨G, J, none⟩ (.int .u8 ((E - 1) % 256)) = W := ⟨_, rfl⟩
          obtain ⟨T2, hT2⟩ : ∃ T2, (T.set k ((A + 1) % 256)).set J ((E - 1) % 256) = T2 := ⟨_, rfl⟩
          rw [hwD, hT2] at H15
          rw [hwD, hT2]
          have HT2 : Hid (T2.length = 16 ∧ Bytes T2 ∧ decide (T = T2) = false) := by
            refine ⟨by rw [← hT2, List.length_set, List.length_set, HM.out.2.2.2.2.1], by rw [← hT2]; exact bytes_set _ _ _ (bytes_set _ _ _ HM.out.2.2.2.2.2 (by omega)) (by omega), ?_⟩
            rw [← hT2]
            exact decide_eq_false (set2_ne T k J _ _ hkT hJk (by rw [HA.out.1]; omega))
          clear hwD hT2 cC fC cJ fJ HC
          refine (CK.out T2 wD HT2.out.1 HT2.out.2.1 O H15.out.1.sp).mono ?_
          rintro e wE ⟨rfl, lE⟩
          rw [HT2.out.2.2]
          have HF : Hid (Stands w wE O g4 n key oth T pss) := H15.out.1.later lE
          clear lE
          go_wp2_with fail
          exact ⟨⟨k + 1, by omega, by go_num, HF.out⟩, by simp [intOf]; omega⟩
      · obtain rfl : k = 16 := by omega
        rw [show ((16 : Nat) : Int) = 16 from rfl]
        go_wp2_with fail
        refine (keptR_yes O ao n c pss wr HS.out.sp (HX.out.1.later HS.out.bel (Nat.le_refl _)) hn).mono ?_
        rintro e w6 ⟨rfl, q, rfl⟩
        go_wp2_with (go_at_call 33; refine (tworks_any _).mono ?_; rintro e w7 ⟨rfl, l7⟩)
        go_ret
        exact ⟨rfl, below_chain (below_dn HS.out.bel q) l7 HS.out.bel.size⟩
end Go.Proofs.Ytogplebajpdmoaa.tagChecks
