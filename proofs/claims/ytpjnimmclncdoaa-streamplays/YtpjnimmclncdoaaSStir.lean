/- Layer stream: the state: with, begin, plus, bytesOf, stirred. -/
import Derived.Test.YtpjnimmclncdoaaSState
import Derived.Test.YtpjnimmclncdoaaSHeld
namespace Go.Proofs.Ytpjnimmclncdoaa
open Go.RowKit
set_option linter.unusedVariables false
set_option linter.unusedSimpArgs false

set_option maxRecDepth 20000 in
set_option maxHeartbeats 4000000 in
theorem stirred_any (st : List Int) (hs : st.length = 16) (w : World) :
    Calls Try.prog 29 #[.agg (u32s st).toArray] w fun e w' => e = .returned (.agg (u32s (stir st)).toArray) ∧ Below w.heap.size w w' := by
  have HZ : Hid (st.length = 16) := hs
  clear hs
  go_enter Try.func29, Try.ntmps29
  go_wp2_with (first | (refine wpList_box_new rfl 68 _ rfl (u32s st) rfl ?_; intro w1 b1 s1 l1) | (refine wpList_alloc_new rfl 68 rfl 16 _ zeroSt ?_; intro w2 b2 s2 l2))
  have HB : Hid (Blk w2 w.heap.size 68 (u32s st) ∧ Blk w2 (w.heap.size + 1) 68 (u32s (List.replicate 16 0)) ∧ Below w.heap.size w w2) :=
    ⟨b1.later l2 (by omega), by rwa [s1] at b2, below_chain l1 l2 (by omega)⟩
  have sz : w2.heap.size = w.heap.size + 2 := by omega
  clear b1 s1 l1 b2 s2 l2
  go_loopw [9] (fun i wr => ∃ p : Nat, p ≤ 10 ∧ i = .int .i64 p ∧ Blk wr w.heap.size 68 (u32s (passN st p)) ∧ Kept (fun b => b = w.heap.size) w2 wr) (fun i _ => 10 - (intOf i).toNat)
  case atStart => exact ⟨0, by omega, rfl, HB.out.1, Kept.refl _ _⟩
  case round =>
    obtain ⟨p, hp, rfl, hb, hkp⟩ := hrel
    by_cases hlt : p < 10
    · have i1 : (p : Int) < 10 := by omega
      have X1 : Hid (Blk wr w.heap.size 68 (u32s (passN st p)) ∧ Kept (fun b => b = w.heap.size) w2 wr) := ⟨hb, hkp⟩
      have T1 : Hid ((passN st p).length = 16) := (passN_length st p).trans HZ.out
      have E1 : Hid (passN st (p + 1) = slants (passN st p) 2) := rfl
      obtain ⟨sp, hsp⟩ : ∃ sp, passN st p = sp := ⟨_, rfl⟩
      rw [hsp] at X1 T1 E1
      clear hb hkp hsp
      go_wp2
      obtain ⟨w3, rfl⟩ : ∃ w3, w3 = wr := ⟨_, rfl⟩
      go_loopw [11] (fun i wr => ∃ s : Nat, s ≤ 2 ∧ i = .int .u64 s ∧ Blk wr w.heap.size 68 (u32s (slants sp s)) ∧ Kept (fun b => b = w.heap.size) w2 wr) (fun i _ => 2 - (intOf i).toNat)
      case atStart => exact ⟨0, by omega, rfl, X1.out⟩
      case round =>
        obtain ⟨s, hs, rfl, hb, hkp⟩ := hrel
        by_cases hlt2 : s < 2
        · have i2 : (s : Int) < 2 := by omega
          have X2 : Hid (Blk wr w.heap.size 68 (u32s (slants sp s)) ∧ Kept (fun b => b = w.heap.size) w2 wr) := ⟨hb, hkp⟩
          have T2 : Hid ((slants sp s).length = 16) := (slants_length sp s).trans T1.out
          have E2 : Hid (slants sp (s + 1) = cols (slants sp s) s 4) := rfl
          obtain ⟨sq, hsq⟩ : ∃ sq, slants sp s = sq := ⟨_, rfl⟩
          rw [hsq] at X2 T2 E2
          clear hb hkp hsq
          go_wp2
          obtain ⟨w4, rfl⟩ : ∃ w4, w4 = wr := ⟨_, rfl⟩
          go_loopw [14] (fun i wr => ∃ c : Nat, c ≤ 4 ∧ i = .int .u64 c ∧ Blk wr w.heap.size 68 (u32s (cols sq s c)) ∧ Kept (fun b => b = w.heap.size) w2 wr) (fun i _ => 4 - (intOf i).toNat)
          case atStart => exact ⟨0, by omega, rfl, X2.out⟩
          case round =>
            obtain ⟨c, hc, rfl, hb, hkp⟩ := hrel
            by_cases hlt3 : c < 4
            · have i3 : (c : Int) < 4 := by omega
              have T3 : (cols sq s c).length = 16 := (cols_length sq s c).trans T2.out
              have E3 : Hid (cols sq s (c + 1) = colStep (cols sq s c) s c) := rfl
              have X3 : Hid (Blk wr w.heap.size 68 (u32s (cols sq s c)) ∧ Kept (fun b => b = w.heap.size) w2 wr) := ⟨hb, hkp⟩
              clear hb hkp
              go_wp2_with (first | (go_at_call 33; first | ((with_reducible show Calls _ _ #[.int .u64 0, _] _ _); refine (cell_at 0 _ c (by omega) (by omega) (by omega) _).mono ?_; rintro e w' ⟨rfl, rfl⟩) | ((with_reducible show Calls _ _ #[.int .u64 1, _] _ _); refine (cell_at 1 _ (c + s) (by omega) (by omega) (by omega) _).mono ?_; rintro e w' ⟨rfl, rfl⟩) | ((with_reducible show Calls _ _ #[.int .u64 2, _] _ _); refine (cell_at 2 _ (c + 2 * s) (by omega) (by omega) (by omega) _).mono ?_; rintro e w' ⟨rfl, rfl⟩) | ((with_reducible show Calls _ _ #[.int .u64 3, _] _ _); refine (cell_at 3 _ (c + 3 * s) (by omega) (by omega) (by omega) _).mono ?_; rintro e w' ⟨rfl, rfl⟩)))
              obtain ⟨ia, hia⟩ : ∃ x : Nat, x = c % 4 := ⟨_, rfl⟩
              obtain ⟨ib, hib⟩ : ∃ x : Nat, x = 4 + (c + s) % 4 := ⟨_, rfl⟩
              obtain ⟨ic, hic⟩ : ∃ x : Nat, x = 8 + (c + 2 * s) % 4 := ⟨_, rfl⟩
              obtain ⟨id, hid⟩ : ∃ x : Nat, x = 12 + (c + 3 * s) % 4 := ⟨_, rfl⟩
              rw [show (c : Int) % 4 = (ia : Int) by omega, show 4 + ((c : Int) + (s : Int)) % 4 = (ib : Int) by omega, show 8 + ((c : Int) + 2 * (s : Int)) % 4 = (ic : Int) by omega, show 12 + ((c : Int) + 3 * (s : Int)) % 4 = (id : Int) by omega]
              have E4 : Hid (colStep (cols sq s c) s c = qPut (cols sq s c) (quarter (qOf (cols sq s c) ia ib ic id)) ia ib ic id) := by show _ = _; rw [hia, hib, hic, hid]; rfl
              have ja : (ia : Int) < 16 := by omega
              have jb : (ib : Int) < 16 := by omega
              have jc : (ic : Int) < 16 := by omega
              have jd : (id : Int) < 16 := by omega
              clear hia hib hic hid
              obtain ⟨sC, hsC⟩ : ∃ x, cols sq s c = x := ⟨_, rfl⟩
              rw [hsC] at T3 E3 E4 X3
              clear hsC
              obtain ⟨wd, hwd⟩ : ∃ x, wr.drew = x := ⟨_, rfl⟩
              have B0 : Hid (Blk wd w.heap.size 68 (u32s sC)) := by show Blk _ _ _ _; rw [← hwd]; exact X3.out.1.drew
              have K0 : Hid (Kept (fun b => b = w.heap.size) w2 wd) := by show Kept _ _ _; rw [← hwd]; exact X3.out.2.drew
              obtain ⟨va, hva⟩ : ∃ x, sC.getD ia 0 = x := ⟨_, rfl⟩
              obtain ⟨vb, hvb⟩ : ∃ x, sC.getD ib 0 = x := ⟨_, rfl⟩
              obtain ⟨vc, hvc⟩ : ∃ x, sC.getD ic 0 = x := ⟨_, rfl⟩
              obtain ⟨vd, hvd⟩ : ∃ x, sC.getD id 0 = x := ⟨_, rfl⟩
              have HS : Hid (wd.cell? ⟨w.heap.size, ia, none⟩ = some (.int .u32 va) ∧ wd.cell? ⟨w.heap.size, ib, none⟩ = some (.int .u32 vb) ∧ wd.cell? ⟨w.heap.size, ic, none⟩ = some (.int .u32 vc) ∧ wd.cell? ⟨w.heap.size, id, none⟩ = some (.int .u32 vd)) :=
                ⟨by rw [← hva]; exact u32s_cell B0.out ia (by omega), by rw [← hvb]; exact u32s_cell B0.out ib (by omega), by rw [← hvc]; exact u32s_cell B0.out ic (by omega), by rw [← hvd]; exact u32s_cell B0.out id (by omega)⟩
              obtain ⟨q, hq⟩ : ∃ q, quarter ⟨va, vb, vc, vd⟩ = q := ⟨_, rfl⟩
              have E5 : Hid (colStep sC s c = qPut sC q ia ib ic id) := by show _ = _; rw [E4.out, qOf, hva, hvb, hvc, hvd, hq]
              clear hva hvb hvc hvd X3 E4
              --REGION
              refine wp_region_noPanic (till_region 16 (fun W => W.cell? ⟨w.heap.size, ia, none⟩ = some (.int .u32 va) ∧ W.cell? ⟨w.heap.size, ib, none⟩ = some (.int .u32 vb) ∧ W.cell? ⟨w.heap.size, ic, none⟩ = some (.int .u32 vc) ∧ W.cell? ⟨w.heap.size, id, none⟩ = some (.int .u32 vd)) (by kernel_rfl) ?_)
              change wpTill _ _ _ _ _ _ _ _ wr.drew
              rw [hwd]
              clear hwd
              refine tTake 0 (some 34) (.int .u64 ia) rfl rfl (by kernel_rfl) (by kernel_rfl) (by kernel_rfl) (by decide) (fun _ _ _ h => h) (by rfl) (fun _ => by rfl) HS.out ?_
              simp only [Act.put, List.setIfInBounds_toArray, List.set_cons_zero, List.set_cons_succ]
              refine tTake 1 (some 35) (.int .u64 ib) rfl rfl (by kernel_rfl) (by kernel_rfl) (by kernel_rfl) (by decide) (fun _ _ _ h => h) (by rfl) (fun _ => by rfl) HS.out ?_
              simp only [Act.put, List.setIfInBounds_toArray, List.set_cons_zero, List.set_cons_succ]
              refine tTake 2 (some 36) (.int .u64 ic) rfl rfl (by kernel_rfl) (by kernel_rfl) (by kernel_rfl) (by decide) (fun _ _ _ h => h) (by rfl) (fun _ => by rfl) HS.out ?_
              simp only [Act.put, List.setIfInBounds_toArray, List.set_cons_zero, List.set_cons_succ]
              refine tTake 3 (some 37) (.int .u64 id) rfl rfl (by kernel_rfl) (by kernel_rfl) (by kernel_rfl) (by decide) (fun _ _ _ h => h) (by rfl) (fun _ => by rfl) HS.out ?_
              simp only [Act.put, List.setIfInBounds_toArray, List.set_cons_zero, List.set_cons_succ]
              refine tTake 4 (some 38) (.int .u64 ia) rfl rfl (by kernel_rfl) (by kernel_rfl) (by kernel_rfl) (by decide) (fun _ _ _ h => h) (by rfl) (fun _ => by rfl) HS.out ?_
              simp only [Act.put, List.setIfInBounds_toArray, List.set_cons_zero, List.set_cons_succ]
              refine tTake 5 (some 39) (.pointer (some ⟨w.heap.size, ia, none⟩)) rfl rfl (by kernel_rfl) (by kernel_rfl) (by kernel_rfl) (by decide) (fun _ _ _ h => h) (by rfl) (fun _ => by go_simp) HS.out ?_
              simp only [Act.put, List.setIfInBounds_toArray, List.set_cons_zero, List.set_cons_succ]
              refine tLoad 6 (some 40) (.int .u32 va) rfl rfl (by kernel_rfl) (by kernel_rfl) (by kernel_rfl) (by decide) (by kernel_rfl) (by kernel_rfl) (fun _ _ _ h => h) (by rfl) (fun W' hS' => by obtain ⟨s1, s2, s3, s4⟩ := hS'; go_simp) HS.out ?_
              simp only [Act.put, List.setIfInBounds_toArray, List.set_cons_zero, List.set_cons_succ]
              refine tTake 7 (some 41) (.int .u64 ib) rfl rfl (by kernel_rfl) (by kernel_rfl) (by kernel_rfl) (by decide) (fun _ _ _ h => h) (by rfl) (fun _ => by rfl) HS.out ?_
              simp only [Act.put, List.setIfInBounds_toArray, List.set_cons_zero, List.set_cons_succ]
              refine tTake 8 (some 42) (.pointer (some ⟨w.heap.size, ib, none⟩)) rfl rfl (by kernel_rfl) (by kernel_rfl) (by kernel_rfl) (by decide) (fun _ _ _ h => h) (by rfl) (fun _ => by go_simp) HS.out ?_
              simp only [Act.put, List.setIfInBounds_toArray, List.set_cons_zero, List.set_cons_succ]
              refine tLoad 9 (some 43) (.int .u32 vb) rfl rfl (by kernel_rfl) (by kernel_rfl) (by kernel_rfl) (by decide) (by kernel_rfl) (by kernel_rfl) (fun _ _ _ h => h) (by rfl) (fun W' hS' => by obtain ⟨s1, s2, s3, s4⟩ := hS'; go_simp) HS.out ?_
              simp only [Act.put, List.setIfInBounds_toArray, List.set_cons_zero, List.set_cons_succ]
              refine tTake 10 (some 44) (.int .u64 ic) rfl rfl (by kernel_rfl) (by kernel_rfl) (by kernel_rfl) (by decide) (fun _ _ _ h => h) (by rfl) (fun _ => by rfl) HS.out ?_
              simp only [Act.put, List.setIfInBounds_toArray, List.set_cons_zero, List.set_cons_succ]
              refine tTake 11 (some 45) (.pointer (some ⟨w.heap.size, ic, none⟩)) rfl rfl (by kernel_rfl) (by kernel_rfl) (by kernel_rfl) (by decide) (fun _ _ _ h => h) (by rfl) (fun _ => by go_simp) HS.out ?_
              simp only [Act.put, List.setIfInBounds_toArray, List.set_cons_zero, List.set_cons_succ]
              refine tLoad 12 (some 46) (.int .u32 vc) rfl rfl (by kernel_rfl) (by kernel_rfl) (by kernel_rfl) (by decide) (by kernel_rfl) (by kernel_rfl) (fun _ _ _ h => h) (by rfl) (fun W' hS' => by obtain ⟨s1, s2, s3, s4⟩ := hS'; go_simp) HS.out ?_
              simp only [Act.put, List.setIfInBounds_toArray, List.set_cons_zero, List.set_cons_succ]
              refine tTake 13 (some 47) (.int .u64 id) rfl rfl (by kernel_rfl) (by kernel_rfl) (by kernel_rfl) (by decide) (fun _ _ _ h => h) (by rfl) (fun _ => by rfl) HS.out ?_
              simp only [Act.put, List.setIfInBounds_toArray, List.set_cons_zero, List.set_cons_succ]
              refine tTake 14 (some 48) (.pointer (some ⟨w.heap.size, id, none⟩)) rfl rfl (by kernel_rfl) (by kernel_rfl) (by kernel_rfl) (by decide) (fun _ _ _ h => h) (by rfl) (fun _ => by go_simp) HS.out ?_
              simp only [Act.put, List.setIfInBounds_toArray, List.set_cons_zero, List.set_cons_succ]
              refine tLoad 15 (some 49) (.int .u32 vd) rfl rfl (by kernel_rfl) (by kernel_rfl) (by kernel_rfl) (by decide) (by kernel_rfl) (by kernel_rfl) (fun _ _ _ h => h) (by rfl) (fun W' hS' => by obtain ⟨s1, s2, s3, s4⟩ := hS'; go_simp) HS.out ?_
              simp only [Act.put, List.setIfInBounds_toArray, List.set_cons_zero, List.set_cons_succ]
              refine till_at (by kernel_rfl) ?_
              refine wpAny_ready (rs := [16]) (by kernel_rfl) (by simp) (AllReady.cons rfl (fun K hK => ?_) AllReady.nil)
              go_simp
              go_wp2_with (go_at_call 35; refine (quarter_any va vb vc vd _).mono ?_; rintro e w' ⟨rfl, rfl⟩)
              have HQ : Hid (quarter ⟨va, vb, vc, vd⟩ = q) := hq
              clear hq
              refine take_op 17 (some 33) (.tuple #[.int .u32 q.a, .int .u32 q.b, .int .u32 q.c, .int .u32 q.d]) rfl rfl (by kernel_rfl) (by kernel_rfl) (by kernel_rfl) (fun _ _ _ h => h) (by rfl) (fun _ => by rfl) ?_
              simp only [Act.put, List.setIfInBounds_toArray, List.set_cons_zero, List.set_cons_succ]
              refine take_op 18 (some 51) (.int .u32 q.a) rfl rfl (by kernel_rfl) (by kernel_rfl) (by kernel_rfl) (fun _ _ _ h => h) (by rfl) (fun _ => by rfl) ?_
              simp only [Act.put, List.setIfInBounds_toArray, List.set_cons_zero, List.set_cons_succ]
              refine take_op 19 (some 52) (.int .u32 q.b) rfl rfl (by kernel_rfl) (by kernel_rfl) (by kernel_rfl) (fun _ _ _ h => h) (by rfl) (fun _ => by rfl) ?_
              simp only [Act.put, List.setIfInBounds_toArray, List.set_cons_zero, List.set_cons_succ]
              refine take_op 20 (some 53) (.int .u32 q.c) rfl rfl (by kernel_rfl) (by kernel_rfl) (by kernel_rfl) (fun _ _ _ h => h) (by rfl) (fun _ => by rfl) ?_
              simp only [Act.put, List.setIfInBounds_toArray, List.set_cons_zero, List.set_cons_succ]
              refine take_op 21 (some 54) (.int .u32 q.d) rfl rfl (by kernel_rfl) (by kernel_rfl) (by kernel_rfl) (fun _ _ _ h => h) (by rfl) (fun _ => by rfl) ?_
              simp only [Act.put, List.setIfInBounds_toArray, List.set_cons_zero, List.set_cons_succ]
              refine take_op 22 (some 55) (.pointer (some ⟨w.heap.size, ia, none⟩)) rfl rfl (by kernel_rfl) (by kernel_rfl) (by kernel_rfl) (fun _ _ _ h => h) (by rfl) (fun _ => by go_simp) ?_
              simp only [Act.put, List.setIfInBounds_toArray, List.set_cons_zero, List.set_cons_succ]
              have c0 := u32s_cell B0.out ia (by first | omega | (simp only [List.length_set]; omega))
              have f0 := B0.out.frozen ia
              have B1 : Hid (Blk (wd.setCell ⟨w.heap.size, ia, none⟩ (.int .u32 q.a)) w.heap.size 68 (u32s (sC.set ia q.a))) := by show Blk _ _ _ _; rw [← u32s_set]; exact B0.out.set _ _
              have K1 : Hid (Kept (fun b => b = w.heap.size) w2 (wd.setCell ⟨w.heap.size, ia, none⟩ (.int .u32 q.a))) := K0.out.setCell rfl _
              refine wpAny_ready (rs := [23]) (by kernel_rfl) (by simp) (AllReady.cons rfl (fun K hK => ?_) AllReady.nil)
              go_simp
              refine hK _ _ ?_
              clear hK K
              change wpAny _ _ _ _ _ _ _ (World.setCell wd ⟨w.heap.size, ia, none⟩ (.int .u32 q.a))
              obtain ⟨x1, hx1⟩ : ∃ x, World.setCell wd ⟨w.heap.size, ia, none⟩ (.int .u32 q.a) = x := ⟨_, rfl⟩
              rw [hx1] at B1 K1 ⊢
              clear hx1 c0 f0
              refine take_op 24 (some 56) (.pointer (some ⟨w.heap.size, ib, none⟩)) rfl rfl (by kernel_rfl) (by kernel_rfl) (by kernel_rfl) (fun _ _ _ h => h) (by rfl) (fun _ => by go_simp) ?_
              simp only [Act.put, List.setIfInBounds_toArray, List.set_cons_zero, List.set_cons_succ]
              have c1 := u32s_cell B1.out ib (by first | omega | (simp only [List.length_set]; omega))
              have f1 := B1.out.frozen ib
              have B2 : Hid (Blk (x1.setCell ⟨w.heap.size, ib, none⟩ (.int .u32 q.b)) w.heap.size 68 (u32s ((sC.set ia q.a).set ib q.b))) := by show Blk _ _ _ _; rw [← u32s_set]; exact B1.out.set _ _
              have K2 : Hid (Kept (fun b => b = w.heap.size) w2 (x1.setCell ⟨w.heap.size, ib, none⟩ (.int .u32 q.b))) := K1.out.setCell rfl _
              refine wpAny_ready (rs := [25]) (by kernel_rfl) (by simp) (AllReady.cons rfl (fun K hK => ?_) AllReady.nil)
              go_simp
              refine hK _ _ ?_
              clear hK K
              change wpAny _ _ _ _ _ _ _ (World.setCell x1 ⟨w.heap.size, ib, none⟩ (.int .u32 q.b))
              obtain ⟨x2, hx2⟩ : ∃ x, World.setCell x1 ⟨w.heap.size, ib, none⟩ (.int .u32 q.b) = x := ⟨_, rfl⟩
              rw [hx2] at B2 K2 ⊢
              clear hx2 c1 f1
              refine take_op 26 (some 57) (.pointer (some ⟨w.heap.size, ic, none⟩)) rfl rfl (by kernel_rfl) (by kernel_rfl) (by kernel_rfl) (fun _ _ _ h => h) (by rfl) (fun _ => by go_simp) ?_
              simp only [Act.put, List.setIfInBounds_toArray, List.set_cons_zero, List.set_cons_succ]
              have c2 := u32s_cell B2.out ic (by first | omega | (simp only [List.length_set]; omega))
              have f2 := B2.out.frozen ic
              have B3 : Hid (Blk (x2.setCell ⟨w.heap.size, ic, none⟩ (.int .u32 q.c)) w.heap.size 68 (u32s (((sC.set ia q.a).set ib q.b).set ic q.c))) := by show Blk _ _ _ _; rw [← u32s_set]; exact B2.out.set _ _
              have K3 : Hid (Kept (fun b => b = w.heap.size) w2 (x2.setCell ⟨w.heap.size, ic, none⟩ (.int .u32 q.c))) := K2.out.setCell rfl _
              refine wpAny_ready (rs := [27]) (by kernel_rfl) (by simp) (AllReady.cons rfl (fun K hK => ?_) AllReady.nil)
              go_simp
              refine hK _ _ ?_
              clear hK K
              change wpAny _ _ _ _ _ _ _ (World.setCell x2 ⟨w.heap.size, ic, none⟩ (.int .u32 q.c))
              obtain ⟨x3, hx3⟩ : ∃ x, World.setCell x2 ⟨w.heap.size, ic, none⟩ (.int .u32 q.c) = x := ⟨_, rfl⟩
              rw [hx3] at B3 K3 ⊢
              clear hx3 c2 f2
              refine take_op 28 (some 58) (.pointer (some ⟨w.heap.size, id, none⟩)) rfl rfl (by kernel_rfl) (by kernel_rfl) (by kernel_rfl) (fun _ _ _ h => h) (by rfl) (fun _ => by go_simp) ?_
              simp only [Act.put, List.setIfInBounds_toArray, List.set_cons_zero, List.set_cons_succ]
              have c3 := u32s_cell B3.out id (by first | omega | (simp only [List.length_set]; omega))
              have f3 := B3.out.frozen id
              have B4 : Hid (Blk (x3.setCell ⟨w.heap.size, id, none⟩ (.int .u32 q.d)) w.heap.size 68 (u32s ((((sC.set ia q.a).set ib q.b).set ic q.c).set id q.d))) := by show Blk _ _ _ _; rw [← u32s_set]; exact B3.out.set _ _
              have K4 : Hid (Kept (fun b => b = w.heap.size) w2 (x3.setCell ⟨w.heap.size, id, none⟩ (.int .u32 q.d))) := K3.out.setCell rfl _
              refine wpAny_ready (rs := [29]) (by kernel_rfl) (by simp) (AllReady.cons rfl (fun K hK => ?_) AllReady.nil)
              go_simp
              refine hK _ _ ?_
              clear hK K
              change wpAny _ _ _ _ _ _ _ (World.setCell x3 ⟨w.heap.size, id, none⟩ (.int .u32 q.d))
              obtain ⟨x4, hx4⟩ : ∃ x, World.setCell x3 ⟨w.heap.size, id, none⟩ (.int .u32 q.d) = x := ⟨_, rfl⟩
              rw [hx4] at B4 K4 ⊢
              clear hx4 c3 f3
              refine wpAny_done (by kernel_rfl) (NoPanic.normal ?_) _
              --ENDREGION
              go_wp2
              exact ⟨⟨c + 1, by omega, by go_num, by rw [E3.out, E5.out]; exact B4.out, K4.out⟩, by simp [intOf]; omega⟩
            · obtain rfl : c = 4 := by omega
              rw [show ((4 : Nat) : Int) = 4 from rfl]
              have X3 : Hid (Blk wr w.heap.size 68 (u32s (cols sq s 4)) ∧ Kept (fun b => b = w.heap.size) w2 wr) := ⟨hb, hkp⟩
              clear hb hkp
              go_wp2
              exact ⟨⟨s + 1, by omega, by go_num, by rw [E2.out]; exact X3.out.1, X3.out.2⟩, by simp [intOf]; omega⟩
        · obtain rfl : s = 2 := by omega
          rw [show ((2 : Nat) : Int) = 2 from rfl]
          have X3 : Hid (Blk wr w.heap.size 68 (u32s (slants sp 2)) ∧ Kept (fun b => b = w.heap.size) w2 wr) := ⟨hb, hkp⟩
          clear hb hkp
          go_wp2
          exact ⟨⟨p + 1, by omega, by go_num, by rw [E1.out]; exact X3.out.1, X3.out.2⟩, by simp [intOf]; omega⟩
    · obtain rfl : p = 10 := by omega
      rw [show ((10 : Nat) : Int) = 10 from rfl]
      have X3 : Hid (Blk wr w.heap.size 68 (u32s (stir st))) := hb
      have X4 : Hid (Blk wr (w.heap.size + 1) 68 (u32s (List.replicate 16 0))) := HB.out.2.1.kept hkp (by omega)
      have X5 : Hid (Below w.heap.size w wr) := below_kept HB.out.2.2 hkp (by omega) (fun j hj => by omega)
      have X6 : Hid ((u32s (stir st)).length = 16) := by show _ = _; rw [u32s_length, stir_length]; exact HZ.out
      clear hb hkp
      go_wp2_with (first | (refine wpList_load_blk rfl 68 _ rfl _ rfl (u32s (stir st)) _ X3.out Try.underlying68 rfl (by rw [X6.out]; exact sizeSt) ?_) | (refine wpList_store_blk rfl 68 68 _ _ rfl _ rfl _ (u32s (stir st)) rfl X4.out (by rw [X6.out, u32s_length, List.length_replicate]) (by rw [X6.out]; exact sizeSt) (u32s_one _) ?_; intro w5 b5 s5 k5))
      exact ret_blk rfl (w.heap.size + 1) (u32s (stir st)) _ rfl b5 Try.underlying68 rfl (by rw [X6.out]; exact sizeSt) rfl ⟨rfl, below_kept X5.out k5 X5.out.size (fun j hj => by omega)⟩
end Go.Proofs.Ytpjnimmclncdoaa
