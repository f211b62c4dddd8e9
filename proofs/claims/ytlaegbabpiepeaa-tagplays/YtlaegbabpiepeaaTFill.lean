/- Layer tag: fill. -/
import Derived.Test.YtlaegbabpiepeaaTBehind
import Derived.Test.YtlaegbabpiepeaaSHeld
namespace Go.Proofs.Ytlaegbabpiepeaa
open Go.RowKit
set_option linter.unusedVariables false
set_option linter.unusedSimpArgs false

/-- A poly with r, s that holds the bytes m. -/
structure PHolds (w : World) (g : Nat) (r0 r1 s : Int) (m : List Int) : Prop where
  at_ : PolyAt w g r0 r1 s (acc (r0 + 18446744073709551616 * r1) m) (openB m) (m.length % 16)
  bytes : Bytes m
theorem PHolds.lt {w : World} {g : Nat} {r0 r1 s : Int} {m : List Int} (h : PHolds w g r0 r1 s m) : g < w.heap.size := h.at_.lt
theorem PHolds.later {w w' : World} {g : Nat} {r0 r1 s : Int} {m : List Int} (h : PHolds w g r0 r1 s m) {B : Nat} (hb : Below B w w') (hB : g < B) : PHolds w' g r0 r1 s m := ⟨h.at_.later hb hB, h.bytes⟩
theorem PHolds.kept {S : Nat → Prop} {w w' : World} {g : Nat} {r0 r1 s : Int} {m : List Int} (h : PHolds w g r0 r1 s m) (hk : Kept S w w') (hS : ¬ S g) : PHolds w' g r0 r1 s m := ⟨h.at_.kept hk hS, h.bytes⟩
theorem PHolds.drewN {w : World} {g : Nat} {r0 r1 s : Int} {m : List Int} (h : PHolds w g r0 r1 s m) (n : Nat) : PHolds (w.drewN n) g r0 r1 s m := ⟨h.at_.drewN n, h.bytes⟩
/-- Part of a variable written. -/
theorem wpList_store_part {ops : Array Oper} {rest : List Oper} {o : Oper} {a : Act} {Q : Exit → Act → World → Prop} {w : World} (hgd : o.guard = none) (t t' : TypeId) (x y : Operand) (ho : o.op = .store t x y) (g off : Nat) (hx : a.eval x = .pointer (some ⟨g, off, none⟩))
    (xs ys zs us : List Value) (hy : a.eval y = .agg us.toArray) (hb : Blk w g t' (xs ++ (ys ++ zs))) (hoff : xs.length = off) (hl : us.length = ys.length) (hi : (Try.prog.info? t).map (·.size) = some us.length) (h1 : ∀ v ∈ us, v.oneCell' = true)
    (h : ∀ w', Blk w' g t' (xs ++ (us ++ zs)) → w'.heap.size = w.heap.size → Kept (fun k => k = g) w w' → wpList Try.prog ops Q rest (a.put o.dst undef) w') : wpList Try.prog ops Q (o :: rest) a w := by
  refine wpList_store_mid hgd t x y ho g off us.toArray hx hy (hb.there (by simp; omega)) (by simpa using hi) (all_oneCell_toArray h1) (h _ ?_ (setCells_size ..) ((Kept.refl _ _).setCells (S := fun k => k = g) rfl _ _))
  subst hoff
  exact Blk.setCells us ys hl hb
set_option maxRecDepth 20000 in
theorem sl_open (g F : Nat) (hF : F < 16) (w : World) : (Instr.sliceAt 45 (.pointer (some ⟨g, 7, none⟩)) (some (.int .i64 (F : Int))) none none).run Try.prog w = .ok (.slice (some ⟨g, 7 + F, none⟩) (16 - F) (16 - F)) w := by
  have h := run_sliceAt_array_l (P := Try.prog) w 45 ⟨g, 7, none⟩ (by kernel_rfl) .i64 (F : Int) (by omega) (by rw [show Try.prog.arrayLen 45 = 16 by kernel_rfl]; omega)
  rw [h, show Try.prog.elem 45 = 5 by kernel_rfl, show Try.prog.arrayLen 45 = 16 by kernel_rfl]
  have hs : (sizeOf 5).run Try.prog w = .ok 1 w := by
    have h := sizeByte
    cases hq : Try.prog.info? 5 with
    | none => simp [hq] at h
    | some i => simp [hq] at h; simp [sizeOf, typeInfo, hq, h]
  have hne : ¬ 16 = F := by omega
  simp [hs, Result.andThen, slicedAt, hne, add_mid]
theorem open_split (m x : List Int) (k : Nat) (hk : m.length % 16 + k ≤ 16) (hx : x.length = k) : rest16 m ++ (x ++ zs0 (16 - m.length % 16 - k)) = if m.length % 16 + k < 16 then openB (m ++ x) else rest16 m ++ x := by
  split
  · next h =>
    have := (acc_less 0 m x (by omega)).2
    have e : (m ++ x).length % 16 = m.length % 16 + k := by rw [List.length_append]; omega
    rw [openB, this, e, List.append_assoc, show 16 - (m.length % 16 + k) = 16 - m.length % 16 - k by omega]
  · rw [show 16 - m.length % 16 - k = 0 by omega, zs0, List.replicate_zero, List.append_nil]
theorem zs0_split (a b : Nat) : zs0 (a + b) = zs0 a ++ zs0 b := by simp [zs0, List.replicate_append_replicate]
theorem set_filled (r0 r1 s a : Int) (op : List Int) (f f' : Nat) (hl : op.length = 16) : (pCells r0 r1 s a op f).set 23 (.int .i64 (f' : Int)) = pCells r0 r1 s a op f' := by
  rw [pCells, List.set_append_right _ _ (by simp [u64s]), List.set_append_right _ _ (by simp [u64s, pr]), List.set_append_right _ _ (by simp [u64s, pr, nm]), List.set_append_right _ _ (by simp [u64s, u8s, pr, nm, hl])]
  simp [u64s, u8s, pr, nm, hl, pCells]
theorem build_zero (w : World) : (Instr.build 45 #[]).run Try.prog w = .ok (.agg (u8s (zs0 16)).toArray) w := by kernel_rfl
theorem min_sum (n F : Nat) (hF : F < 16) : Nat.min n (16 - F) ≤ n ∧ F + Nat.min n (16 - F) ≤ 16 := ⟨Nat.min_le_left _ _, by have : Nat.min n (16 - F) ≤ 16 - F := Nat.min_le_right _ _; omega⟩
set_option maxRecDepth 20000 in
set_option maxHeartbeats 2000000 in
theorem fill_any (g : Nat) (r0 r1 s : Int) (m : List Int) (ao : Option Addr) (n c : Nat) (zs : List Int) (w : World) (h : PHolds w g r0 r1 s m) (hx : Seen w ao n zs) (hne : ∀ b o, 0 < n → ao = some ⟨b, o, none⟩ → b ≠ g) :
    Calls Try.prog 16 #[.pointer (some ⟨g, 0, none⟩), .slice ao n c] w fun e w' => e = .returned (.int .i64 (Nat.min n (16 - m.length % 16) : Nat)) ∧ PHolds w' g r0 r1 s (m ++ zs.take (Nat.min n (16 - m.length % 16))) ∧ Kept (fun k => k = g) w w' := by
  obtain ⟨F, hF⟩ : ∃ z, m.length % 16 = z := ⟨_, rfl⟩
  have hF16 : F < 16 := by omega
  obtain ⟨k, hk⟩ : ∃ z, Nat.min n (16 - F) = z := ⟨_, rfl⟩
  have hk1 : k ≤ n := by rw [← hk]; exact (min_sum n F hF16).1
  have hk2 : F + k ≤ 16 := by rw [← hk]; exact (min_sum n F hF16).2
  have hP := h.at_
  rw [hF] at hP ⊢
  rw [hk]
  obtain ⟨a, ha⟩ : ∃ z, acc (r0 + 18446744073709551616 * r1) m = z := ⟨_, rfl⟩
  rw [ha] at hP
  have c23 := blk_filled hP.blk hP.ol
  have HM : Hid (m.length % 16 = F ∧ acc (r0 + 18446744073709551616 * r1) m = a ∧ Nat.min n (16 - F) = k ∧ Bytes m ∧ F < 16) := ⟨hF, ha, hk, h.bytes, hF16⟩
  have HX : Hid (Seen w ao n zs ∧ PolyAt w g r0 r1 s a (openB m) F) := ⟨hx, hP⟩
  have hsl := sl_open g F hF16
  have hzl : (zs.take k).length = k := by rw [List.length_take, hx.len]; omega
  have HZ : Hid ((zs.take k).length = k ∧ Bytes (zs.take k)) := ⟨hzl, bytes_take hx.bytes _⟩
  clear h hx hne hP hF ha hk hzl
  go_enter Try.func16, Try.ntmps16
  go_wp2_with fail
  refine wp_region_noPanic (till_region 7 (fun W => W.cell? ⟨g, 23, none⟩ = some (.int .i64 (F : Int))) (by kernel_rfl) ?_)
  change wpTill _ _ _ _ _ _ _ _ w.drew
  have SG : Hid (w.drew.cell? ⟨g, 23, none⟩ = some (.int .i64 (F : Int))) := c23
  refine tTake 0 (some 6) (.pointer (some ⟨g, 0, none⟩)) rfl rfl (by kernel_rfl) (by kernel_rfl) (by kernel_rfl) (by decide) (fun _ _ _ h => h) (by rfl) (fun _ => by go_simp) SG.out ?_
  simp only [Act.put, List.setIfInBounds_toArray, List.set_cons_zero, List.set_cons_succ]
  refine tTake 1 (some 7) (.pointer (some ⟨g, 0, none⟩)) rfl rfl (by kernel_rfl) (by kernel_rfl) (by kernel_rfl) (by decide) (fun _ _ _ h => h) (by rfl) (fun _ => by go_simp) SG.out ?_
  simp only [Act.put, List.setIfInBounds_toArray, List.set_cons_zero, List.set_cons_succ]
  refine tTake 2 (some 8) (.pointer (some ⟨g, 7, none⟩)) rfl rfl (by kernel_rfl) (by kernel_rfl) (by kernel_rfl) (by decide) (fun _ _ _ h => h) (by rfl) (fun _ => by go_simp) SG.out ?_
  simp only [Act.put, List.setIfInBounds_toArray, List.set_cons_zero, List.set_cons_succ]
  refine tTake 3 (some 9) (.pointer (some ⟨g, 0, none⟩)) rfl rfl (by kernel_rfl) (by kernel_rfl) (by kernel_rfl) (by decide) (fun _ _ _ h => h) (by rfl) (fun _ => by go_simp) SG.out ?_
  simp only [Act.put, List.setIfInBounds_toArray, List.set_cons_zero, List.set_cons_succ]
  refine tTake 4 (some 10) (.pointer (some ⟨g, 0, none⟩)) rfl rfl (by kernel_rfl) (by kernel_rfl) (by kernel_rfl) (by decide) (fun _ _ _ h => h) (by rfl) (fun _ => by go_simp) SG.out ?_
  simp only [Act.put, List.setIfInBounds_toArray, List.set_cons_zero, List.set_cons_succ]
  refine tTake 5 (some 11) (.pointer (some ⟨g, 23, none⟩)) rfl rfl (by kernel_rfl) (by kernel_rfl) (by kernel_rfl) (by decide) (fun _ _ _ h => h) (by rfl) (fun _ => by go_simp) SG.out ?_
  simp only [Act.put, List.setIfInBounds_toArray, List.set_cons_zero, List.set_cons_succ]
  refine tLoad 6 (some 12) (.int .i64 (F : Int)) rfl rfl (by kernel_rfl) (by kernel_rfl) (by kernel_rfl) (by decide) (by kernel_rfl) (by kernel_rfl) (fun _ _ _ h => h) (by rfl) (fun W hS => by go_simp) SG.out ?_
  simp only [Act.put, List.setIfInBounds_toArray, List.set_cons_zero, List.set_cons_succ]
  refine tTake 8 (some 14) (.slice ao n c) rfl rfl (by kernel_rfl) (by kernel_rfl) (by kernel_rfl) (by decide) (fun _ _ _ h => h) (by rfl) (fun _ => by go_simp) SG.out ?_
  simp only [Act.put, List.setIfInBounds_toArray, List.set_cons_zero, List.set_cons_succ]
  refine till_at (by kernel_rfl) ?_
  refine take_op 7 (some 13) (.slice (some ⟨g, 7 + F, none⟩) (16 - F) (16 - F)) rfl rfl (by kernel_rfl) (by kernel_rfl) (by kernel_rfl) (fun _ _ _ h => h) (by rfl) (fun _ => by go_simp) ?_
  simp only [Act.put, List.setIfInBounds_toArray, List.set_cons_zero, List.set_cons_succ]
  have HB : Hid (Blk w.drew g 60 (u64s [r0, r1] ++ (u64s (pr s) ++ (u64s (nm a) ++ u8s (rest16 m))) ++ (u8s (zs0 k) ++ (u8s (zs0 (16 - F - k)) ++ [Value.int .i64 (F : Int)])))) := by
    have q := HX.out.2.blk.drew
    have e : openB m = rest16 m ++ (zs0 k ++ zs0 (16 - F - k)) := by rw [openB, HM.out.1, ← zs0_split, show k + (16 - F - k) = 16 - F by omega]
    have e2 : pCells r0 r1 s a (openB m) F = u64s [r0, r1] ++ (u64s (pr s) ++ (u64s (nm a) ++ u8s (rest16 m))) ++ (u8s (zs0 k) ++ (u8s (zs0 (16 - F - k)) ++ [Value.int .i64 (F : Int)])) := by
      rw [pCells, e]; simp [u8s, List.append_assoc]
    rwa [e2] at q
  refine wpAny_ready (rs := [9]) (by kernel_rfl) (by simp) (AllReady.cons rfl (fun K hK => ?_) AllReady.nil)
  refine step_copy_seen rfl (.tmp 13) (.tmp 14) rfl g (7 + F) (16 - F) (16 - F) (some ⟨g, 7 + F, none⟩) ao n c rfl rfl zs (HX.out.1.drew) 60 _ _ _ HB.out (by have h1 := rest16_length m; rw [HM.out.1] at h1; simp [u64s, u8s, pr, nm, h1]; omega) k HM.out.2.2.1 (by simp [u8s, zs0]) (fun _ => rfl) (some 15) rfl ?_
  intro w1 b1 s1 k1
  refine hK _ _ ?_
  simp only [Act.put, List.setIfInBounds_toArray, List.set_cons_zero, List.set_cons_succ]
  refine take_op 10 (some 5) (goInt k) rfl rfl (by kernel_rfl) (by kernel_rfl) (by kernel_rfl) (fun _ _ _ h => h) (by rfl) (fun _ => rfl) ?_
  simp only [Act.put, List.setIfInBounds_toArray, List.set_cons_zero, List.set_cons_succ]
  refine wpAny_done (by kernel_rfl) (NoPanic.normal ?_) _
  obtain ⟨op1, ho1⟩ : ∃ z, rest16 m ++ (zs.take k ++ zs0 (16 - F - k)) = z := ⟨_, rfl⟩
  have hol : op1.length = 16 := by
    have h1 := rest16_length m
    rw [HM.out.1] at h1
    rw [← ho1, List.length_append, List.length_append, h1, HZ.out.1, zs0_length]; omega
  have hob : Bytes op1 := by rw [← ho1]; exact bytes_app (rest16_bytes HM.out.2.2.2.1) (bytes_app HZ.out.2 (zs0_bytes _))
  have b1' : Blk w1 g 60 (pCells r0 r1 s a op1 F) := by
    have e2 : pCells r0 r1 s a op1 F = u64s [r0, r1] ++ (u64s (pr s) ++ (u64s (nm a) ++ u8s (rest16 m))) ++ (u8s (zs.take k) ++ (u8s (zs0 (16 - F - k)) ++ [Value.int .i64 (F : Int)])) := by
      rw [pCells, ← ho1]; simp [u8s, List.append_assoc]
    rw [e2]; exact b1
  have K1 : Kept (fun b => b = g) w w1 := ⟨k1.os, k1.tape, k1.output, k1.size, k1.block⟩
  have c1 := blk_filled b1' hol
  have f1 := b1'.frozen 23
  have b2 := b1'.set 23 (.int .i64 ((F + k : Nat) : Int))
  rw [set_filled r0 r1 s a op1 F (F + k) hol] at b2
  have K2 := K1.setCell (p := ⟨g, 23, none⟩) rfl (.int .i64 ((F + k : Nat) : Int))
  have X1 : Hid (Blk (w1.setCell ⟨g, 23, none⟩ (.int .i64 ((F + k : Nat) : Int))) g 60 (pCells r0 r1 s a op1 (F + k)) ∧ Kept (fun b => b = g) w (w1.setCell ⟨g, 23, none⟩ (.int .i64 ((F + k : Nat) : Int)))) := ⟨b2, K2⟩
  have HO : Hid (op1.length = 16 ∧ Bytes op1 ∧ rest16 m ++ (zs.take k ++ zs0 (16 - F - k)) = op1) := ⟨hol, hob, ho1⟩
  have c2 := blk_filled b2 hol
  have n1 : ((F + k : Nat) : Int) = (F : Int) + (k : Int) := by omega
  rw [n1] at c2 X1
  clear b1 s1 k1 b1' K1 b2 K2 ho1 hol hob SG HB n1
  by_cases hfull : F + k = 16
  · have i1 : (F : Int) + (k : Int) = 16 := by omega
    rw [i1] at c2 X1
    rw [hfull] at X1
    obtain ⟨A, hA⟩ : ∃ z, nm (step5 (r0 + 18446744073709551616 * r1) a (le op1 + 1 * 340282366920938463463374607431768211456)) = z := ⟨_, rfl⟩
    have HAL : Hid (nm (step5 (r0 + 18446744073709551616 * r1) a (le op1 + 1 * 340282366920938463463374607431768211456)) = A ∧ A.length = 3) := ⟨hA, by rw [← hA]; rfl⟩
    have PA : Hid (PolyAt (w1.setCell ⟨g, 23, none⟩ (.int .i64 16)) g r0 r1 s a op1 16) := ⟨X1.out.1, HX.out.2.hr0, HX.out.2.hr1, HX.out.2.hs, HX.out.2.ha, HO.out.1, HO.out.2.1, Nat.le_refl _⟩
    have BH := behind_any g r0 r1 s a op1 16 op1 1 HO.out.1 HO.out.2.1 (by decide) _ PA.out
    rw [hA] at BH
    have HBH : Hid (Calls Try.prog 17 #[.pointer (some ⟨g, 0, none⟩), .agg (u8s op1).toArray, .int .u64 1] (w1.setCell ⟨g, 23, none⟩ (.int .i64 16)) fun e w' => e = .returned (.agg (u64s A).toArray) ∧ Below (w1.setCell ⟨g, 23, none⟩ (.int .i64 16)).heap.size (w1.setCell ⟨g, 23, none⟩ (.int .i64 16)) w') := BH
    clear BH hA
    go_wp2_with (first | (refine wpList_load_mid rfl 45 _ rfl g 7 rfl (u8s op1) _ (blk_open X1.out.1) Try.underlying45 rfl (by rw [u8s_length, HO.out.1]; exact size16) ?_) | (go_at_call 17; refine HBH.out.mono ?_; rintro e w3 ⟨rfl, l3⟩; have B3 : Hid (Blk w3 g 60 (u64s [r0, r1] ++ u64s (pr s) ++ (u64s (nm a) ++ (u8s op1 ++ [Value.int .i64 ((16 : Nat) : Int)])))) := (by have q := X1.out.1.later l3 X1.out.1.lt; rw [pCells, ← List.append_assoc] at q; exact q); have K3 : Hid (Kept (fun b => b = g) w w3) := (by have q := X1.out.2; exact q.trans (Kept.new _ l3)); clear l3 c1 f1 c2) | (refine wpList_store_part rfl 55 60 _ _ rfl g 4 rfl (u64s [r0, r1] ++ u64s (pr s)) (u64s (nm a)) (u8s op1 ++ [Value.int .i64 ((16 : Nat) : Int)]) (u64s A) rfl B3.out rfl (by rw [u64s_length, HAL.out.2]; rfl) (by rw [u64s_length, HAL.out.2]; exact sizeNumber) (u64s_one _) ?_; intro w4 b4 s4 k4; have B4 : Hid (Blk w4 g 60 (u64s [r0, r1] ++ (u64s (pr s) ++ u64s A) ++ (u8s op1 ++ ([Value.int .i64 ((16 : Nat) : Int)] ++ [])))) := (by have q := b4; simp only [List.append_assoc, List.append_nil] at q ⊢; exact q); have K4 : Hid (Kept (fun b => b = g) w w4) := K3.out.trans k4; clear b4 s4 k4) | (refine wpList_build rfl 45 _ rfl #[] rfl _ (build_zero _) ?_) | (refine wpList_store_part rfl 45 60 _ _ rfl g 7 rfl (u64s [r0, r1] ++ (u64s (pr s) ++ u64s A)) (u8s op1) ([Value.int .i64 ((16 : Nat) : Int)] ++ []) (u8s (zs0 16)) rfl B4.out (by simp [u64s, pr, HAL.out.2]) (by rw [u8s_length, u8s_length, HO.out.1]; rfl) size16 (u8s_one _) ?_; intro w5 b5 s5 k5; have B5 : Hid (Blk w5 g 60 (pCells r0 r1 s (step5 (r0 + 18446744073709551616 * r1) a (le op1 + 1 * 340282366920938463463374607431768211456)) (zs0 16) 16)) := (by have q := b5; rw [pCells, HAL.out.1]; simp only [List.append_assoc, List.append_nil] at q ⊢; exact q); have K5 : Hid (Kept (fun b => b = g) w w5) := K4.out.trans k5; have c5 := blk_filled B5.out (zs0_length 16); have f5 := B5.out.frozen 23; clear b5 s5 k5))
    go_ret
    have e1 := acc_full (r0 + 18446744073709551616 * r1) m (zs.take k) (by rw [HM.out.1, HZ.out.1]; exact hfull)
    have e2 : (m ++ zs.take k).length % 16 = 0 := by rw [List.length_append, HZ.out.1]; have := HM.out.1; omega
    have e3 : openB (m ++ zs.take k) = zs0 16 := by rw [openB, e1.2, e2]; rfl
    have e4 : op1 = rest16 m ++ zs.take k := by
      rw [← HO.out.2.2, show 16 - F - k = 0 by omega, zs0, List.replicate_zero, List.append_nil]
    have hbd := step5_bd (r0 + 18446744073709551616 * r1) a (le op1 + 1 * 340282366920938463463374607431768211456) (by have := HX.out.2.hr0; have := HX.out.2.hr1; omega) HX.out.2.ha (by have := le16_bd op1 HO.out.2.1 (by rw [HO.out.1]; omega); omega)
    have b6 := B5.out.set 23 (.int .i64 ((0 : Nat) : Int))
    rw [set_filled _ _ _ _ _ 16 0 (zs0_length 16)] at b6
    refine ⟨rfl, ⟨?_, bytes_app HM.out.2.2.2.1 HZ.out.2⟩, K5.out.setCell (p := ⟨g, 23, none⟩) rfl _⟩
    rw [e3, e2, e1.1, HM.out.2.1, ← e4, show le op1 + 340282366920938463463374607431768211456 = le op1 + 1 * 340282366920938463463374607431768211456 by omega]
    exact ⟨b6, HX.out.2.hr0, HX.out.2.hr1, HX.out.2.hs, hbd, zs0_length 16, zs0_bytes 16, by decide⟩
  · have i1 : ¬ (F : Int) + (k : Int) = 16 := by omega
    go_wp2_with fail
    go_ret
    have e1 := acc_less (r0 + 18446744073709551616 * r1) m (zs.take k) (by rw [HM.out.1, HZ.out.1]; omega)
    have e2 : (m ++ zs.take k).length % 16 = F + k := by rw [List.length_append, HZ.out.1]; have := HM.out.1; omega
    have e3 := open_split m (zs.take k) k (by rw [HM.out.1]; omega) HZ.out.1
    rw [if_pos (by rw [HM.out.1]; omega), HM.out.1, HO.out.2.2] at e3
    refine ⟨rfl, ⟨?_, bytes_app HM.out.2.2.2.1 HZ.out.2⟩, X1.out.2⟩
    rw [← e3, e2, e1.1, HM.out.2.1]
    exact ⟨X1.out.1, HX.out.2.hr0, HX.out.2.hr1, HX.out.2.hs, HX.out.2.ha, HO.out.1, HO.out.2.1, by omega⟩
end Go.Proofs.Ytlaegbabpiepeaa
