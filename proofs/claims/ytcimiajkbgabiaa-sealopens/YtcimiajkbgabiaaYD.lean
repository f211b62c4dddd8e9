/- Joined texts: SStir SBlock DSpare RSBlock SNew. -/
import Derived.Test.YtcimiajkbgabiaaYC
import Derived.Test.YtcimiajkbgabiaaYA
import Derived.Test.YtcimiajkbgabiaaYB
import Derived.Laws.OwnMore
namespace Go.Proofs.Ytcimiajkbgabiaa
open Go.RowKit
set_option linter.unusedVariables false
set_option linter.unusedSimpArgs false

set_option maxRecDepth 20000 in
set_option maxHeartbeats 4000000 in
theorem stirred_any (st : List Int) (hs : st.length = 16) (w : World) :
    Calls Try.prog 77 #[.agg (u32s st).toArray] w fun e w' => e = .returned (.agg (u32s (stir st)).toArray) ∧ Below w.heap.size w w' := by
  have HZ : Hid (st.length = 16) := hs
  clear hs
  go_enter Try.func77, Try.ntmps77
  go_wp2_with (first | (refine wpList_box_new rfl 125 _ rfl (u32s st) rfl ?_; intro w1 b1 s1 l1) | (refine wpList_alloc_new rfl 125 rfl 16 _ zeroSt ?_; intro w2 b2 s2 l2))
  have HB : Hid (Blk w2 w.heap.size 125 (u32s st) ∧ Blk w2 (w.heap.size + 1) 125 (u32s (List.replicate 16 0)) ∧ Below w.heap.size w w2) :=
    ⟨b1.later l2 (by omega), by rwa [s1] at b2, below_chain l1 l2 (by omega)⟩
  have sz : w2.heap.size = w.heap.size + 2 := by omega
  clear b1 s1 l1 b2 s2 l2
  go_loopw [9] (fun i wr => ∃ p : Nat, p ≤ 10 ∧ i = .int .i64 p ∧ Blk wr w.heap.size 125 (u32s (passN st p)) ∧ Kept (fun b => b = w.heap.size) w2 wr) (fun i _ => 10 - (intOf i).toNat)
  case atStart => exact ⟨0, by omega, rfl, HB.out.1, Kept.refl _ _⟩
  case round =>
    obtain ⟨p, hp, rfl, hb, hkp⟩ := hrel
    by_cases hlt : p < 10
    · have i1 : (p : Int) < 10 := by omega
      have X1 : Hid (Blk wr w.heap.size 125 (u32s (passN st p)) ∧ Kept (fun b => b = w.heap.size) w2 wr) := ⟨hb, hkp⟩
      have T1 : Hid ((passN st p).length = 16) := (passN_length st p).trans HZ.out
      have E1 : Hid (passN st (p + 1) = slants (passN st p) 2) := rfl
      obtain ⟨sp, hsp⟩ : ∃ sp, passN st p = sp := ⟨_, rfl⟩
      rw [hsp] at X1 T1 E1
      clear hb hkp hsp
      go_wp2
      obtain ⟨w3, rfl⟩ : ∃ w3, w3 = wr := ⟨_, rfl⟩
      go_loopw [11] (fun i wr => ∃ s : Nat, s ≤ 2 ∧ i = .int .u64 s ∧ Blk wr w.heap.size 125 (u32s (slants sp s)) ∧ Kept (fun b => b = w.heap.size) w2 wr) (fun i _ => 2 - (intOf i).toNat)
      case atStart => exact ⟨0, by omega, rfl, X1.out⟩
      case round =>
        obtain ⟨s, hs, rfl, hb, hkp⟩ := hrel
        by_cases hlt2 : s < 2
        · have i2 : (s : Int) < 2 := by omega
          have X2 : Hid (Blk wr w.heap.size 125 (u32s (slants sp s)) ∧ Kept (fun b => b = w.heap.size) w2 wr) := ⟨hb, hkp⟩
          have T2 : Hid ((slants sp s).length = 16) := (slants_length sp s).trans T1.out
          have E2 : Hid (slants sp (s + 1) = cols (slants sp s) s 4) := rfl
          obtain ⟨sq, hsq⟩ : ∃ sq, slants sp s = sq := ⟨_, rfl⟩
          rw [hsq] at X2 T2 E2
          clear hb hkp hsq
          go_wp2
          obtain ⟨w4, rfl⟩ : ∃ w4, w4 = wr := ⟨_, rfl⟩
          go_loopw [14] (fun i wr => ∃ c : Nat, c ≤ 4 ∧ i = .int .u64 c ∧ Blk wr w.heap.size 125 (u32s (cols sq s c)) ∧ Kept (fun b => b = w.heap.size) w2 wr) (fun i _ => 4 - (intOf i).toNat)
          case atStart => exact ⟨0, by omega, rfl, X2.out⟩
          case round =>
            obtain ⟨c, hc, rfl, hb, hkp⟩ := hrel
            by_cases hlt3 : c < 4
            · have i3 : (c : Int) < 4 := by omega
              have T3 : (cols sq s c).length = 16 := (cols_length sq s c).trans T2.out
              have E3 : Hid (cols sq s (c + 1) = colStep (cols sq s c) s c) := rfl
              have X3 : Hid (Blk wr w.heap.size 125 (u32s (cols sq s c)) ∧ Kept (fun b => b = w.heap.size) w2 wr) := ⟨hb, hkp⟩
              clear hb hkp
              go_wp2_with (first | (go_at_call 97; first | ((with_reducible show Calls _ _ #[.int .u64 0, _] _ _); refine (cell_at 0 _ c (by omega) (by omega) (by omega) _).mono ?_; rintro e w' ⟨rfl, rfl⟩) | ((with_reducible show Calls _ _ #[.int .u64 1, _] _ _); refine (cell_at 1 _ (c + s) (by omega) (by omega) (by omega) _).mono ?_; rintro e w' ⟨rfl, rfl⟩) | ((with_reducible show Calls _ _ #[.int .u64 2, _] _ _); refine (cell_at 2 _ (c + 2 * s) (by omega) (by omega) (by omega) _).mono ?_; rintro e w' ⟨rfl, rfl⟩) | ((with_reducible show Calls _ _ #[.int .u64 3, _] _ _); refine (cell_at 3 _ (c + 3 * s) (by omega) (by omega) (by omega) _).mono ?_; rintro e w' ⟨rfl, rfl⟩)))
              obtain ⟨ia, hia⟩ : ∃ x : Nat, x = c % 4 := ⟨_, rfl⟩
              obtain ⟨ib, hib⟩ : ∃ x : Nat, x = 4 + (c + s) % 4 := ⟨_, rfl⟩
              obtain ⟨ic, hic⟩ : ∃ x : Nat, x = 8 + (c + 2 * s) % 4 := ⟨_, rfl⟩
              obtain ⟨id, hid⟩ : ∃ x : Nat, x = 12 + (c + 3 * s) % 4 := ⟨_, rfl⟩
              rw [show (c : Int) % 4 = (ia : Int) by omega, show 4 + ((c : Int) + (s : Int)) % 4 = (ib : Int) by omega, show 8 + ((c : Int) + 2 * (s : Int)) % 4 = (ic : Int) by omega, show 12 + ((c : Int) + 3 * (s : Int)) % 4 = (id : Int) by omega]
              have E4 : Hid (colStep (cols sq s c) s c = qPut (cols sq s c) (quarter (qOf (cols sq s c) ia ib ic id)) ia ib ic id) := by show _ = _; rw [hia, hib, hic, hid]; rfl
              have ja : (ia : Int) < 16 := by omega
              have jb : (ib : Int) < 16 := by omega
              have jc : (ic : Int) < 16 := by omega
              have jd : (id : Int) < 16 := by omega
              clear hia hib hic hid
              obtain ⟨sC, hsC⟩ : ∃ x, cols sq s c = x := ⟨_, rfl⟩
              rw [hsC] at T3 E3 E4 X3
              clear hsC
              obtain ⟨wd, hwd⟩ : ∃ x, wr.drew = x := ⟨_, rfl⟩
              have B0 : Hid (Blk wd w.heap.size 125 (u32s sC)) := by show Blk _ _ _ _; rw [← hwd]; exact X3.out.1.drew
              have K0 : Hid (Kept (fun b => b = w.heap.size) w2 wd) := by show Kept _ _ _; rw [← hwd]; exact X3.out.2.drew
              obtain ⟨va, hva⟩ : ∃ x, sC.getD ia 0 = x := ⟨_, rfl⟩
              obtain ⟨vb, hvb⟩ : ∃ x, sC.getD ib 0 = x := ⟨_, rfl⟩
              obtain ⟨vc, hvc⟩ : ∃ x, sC.getD ic 0 = x := ⟨_, rfl⟩
              obtain ⟨vd, hvd⟩ : ∃ x, sC.getD id 0 = x := ⟨_, rfl⟩
              have HS : Hid (wd.cell? ⟨w.heap.size, ia, none⟩ = some (.int .u32 va) ∧ wd.cell? ⟨w.heap.size, ib, none⟩ = some (.int .u32 vb) ∧ wd.cell? ⟨w.heap.size, ic, none⟩ = some (.int .u32 vc) ∧ wd.cell? ⟨w.heap.size, id, none⟩ = some (.int .u32 vd)) :=
                ⟨by rw [← hva]; exact u32s_cell B0.out ia (by omega), by rw [← hvb]; exact u32s_cell B0.out ib (by omega), by rw [← hvc]; exact u32s_cell B0.out ic (by omega), by rw [← hvd]; exact u32s_cell B0.out id (by omega)⟩
              obtain ⟨q, hq⟩ : ∃ q, quarter ⟨va, vb, vc, vd⟩ = q := ⟨_, rfl⟩
              have E5 : Hid (colStep sC s c = qPut sC q ia ib ic id) := by show _ = _; rw [E4.out, qOf, hva, hvb, hvc, hvd, hq]
              clear hva hvb hvc hvd X3 E4
              --REGION
              refine wp_region_noPanic (till_region 16 (fun W => W.cell? ⟨w.heap.size, ia, none⟩ = some (.int .u32 va) ∧ W.cell? ⟨w.heap.size, ib, none⟩ = some (.int .u32 vb) ∧ W.cell? ⟨w.heap.size, ic, none⟩ = some (.int .u32 vc) ∧ W.cell? ⟨w.heap.size, id, none⟩ = some (.int .u32 vd)) (by kernel_rfl) ?_)
              change wpTill _ _ _ _ _ _ _ _ wr.drew
              rw [hwd]
              clear hwd
              refine tTake 0 (some 34) (.int .u64 ia) rfl rfl (by kernel_rfl) (by kernel_rfl) (by kernel_rfl) (by decide) (fun _ _ _ h => h) (by rfl) (fun _ => by rfl) HS.out ?_
              simp only [Act.put, List.setIfInBounds_toArray, List.set_cons_zero, List.set_cons_succ]
              refine tTake 1 (some 35) (.int .u64 ib) rfl rfl (by kernel_rfl) (by kernel_rfl) (by kernel_rfl) (by decide) (fun _ _ _ h => h) (by rfl) (fun _ => by rfl) HS.out ?_
              simp only [Act.put, List.setIfInBounds_toArray, List.set_cons_zero, List.set_cons_succ]
              refine tTake 2 (some 36) (.int .u64 ic) rfl rfl (by kernel_rfl) (by kernel_rfl) (by kernel_rfl) (by decide) (fun _ _ _ h => h) (by rfl) (fun _ => by rfl) HS.out ?_
              simp only [Act.put, List.setIfInBounds_toArray, List.set_cons_zero, List.set_cons_succ]
              refine tTake 3 (some 37) (.int .u64 id) rfl rfl (by kernel_rfl) (by kernel_rfl) (by kernel_rfl) (by decide) (fun _ _ _ h => h) (by rfl) (fun _ => by rfl) HS.out ?_
              simp only [Act.put, List.setIfInBounds_toArray, List.set_cons_zero, List.set_cons_succ]
              refine tTake 4 (some 38) (.int .u64 ia) rfl rfl (by kernel_rfl) (by kernel_rfl) (by kernel_rfl) (by decide) (fun _ _ _ h => h) (by rfl) (fun _ => by rfl) HS.out ?_
              simp only [Act.put, List.setIfInBounds_toArray, List.set_cons_zero, List.set_cons_succ]
              refine tTake 5 (some 39) (.pointer (some ⟨w.heap.size, ia, none⟩)) rfl rfl (by kernel_rfl) (by kernel_rfl) (by kernel_rfl) (by decide) (fun _ _ _ h => h) (by rfl) (fun _ => by go_simp) HS.out ?_
              simp only [Act.put, List.setIfInBounds_toArray, List.set_cons_zero, List.set_cons_succ]
              refine tLoad 6 (some 40) (.int .u32 va) rfl rfl (by kernel_rfl) (by kernel_rfl) (by kernel_rfl) (by decide) (by kernel_rfl) (by kernel_rfl) (fun _ _ _ h => h) (by rfl) (fun W' hS' => by obtain ⟨s1, s2, s3, s4⟩ := hS'; go_simp) HS.out ?_
              simp only [Act.put, List.setIfInBounds_toArray, List.set_cons_zero, List.set_cons_succ]
              refine tTake 7 (some 41) (.int .u64 ib) rfl rfl (by kernel_rfl) (by kernel_rfl) (by kernel_rfl) (by decide) (fun _ _ _ h => h) (by rfl) (fun _ => by rfl) HS.out ?_
              simp only [Act.put, List.setIfInBounds_toArray, List.set_cons_zero, List.set_cons_succ]
              refine tTake 8 (some 42) (.pointer (some ⟨w.heap.size, ib, none⟩)) rfl rfl (by kernel_rfl) (by kernel_rfl) (by kernel_rfl) (by decide) (fun _ _ _ h => h) (by rfl) (fun _ => by go_simp) HS.out ?_
              simp only [Act.put, List.setIfInBounds_toArray, List.set_cons_zero, List.set_cons_succ]
              refine tLoad 9 (some 43) (.int .u32 vb) rfl rfl (by kernel_rfl) (by kernel_rfl) (by kernel_rfl) (by decide) (by kernel_rfl) (by kernel_rfl) (fun _ _ _ h => h) (by rfl) (fun W' hS' => by obtain ⟨s1, s2, s3, s4⟩ := hS'; go_simp) HS.out ?_
              simp only [Act.put, List.setIfInBounds_toArray, List.set_cons_zero, List.set_cons_succ]
              refine tTake 10 (some 44) (.int .u64 ic) rfl rfl (by kernel_rfl) (by kernel_rfl) (by kernel_rfl) (by decide) (fun _ _ _ h => h) (by rfl) (fun _ => by rfl) HS.out ?_
              simp only [Act.put, List.setIfInBounds_toArray, List.set_cons_zero, List.set_cons_succ]
              refine tTake 11 (some 45) (.pointer (some ⟨w.heap.size, ic, none⟩)) rfl rfl (by kernel_rfl) (by kernel_rfl) (by kernel_rfl) (by decide) (fun _ _ _ h => h) (by rfl) (fun _ => by go_simp) HS.out ?_
              simp only [Act.put, List.setIfInBounds_toArray, List.set_cons_zero, List.set_cons_succ]
              refine tLoad 12 (some 46) (.int .u32 vc) rfl rfl (by kernel_rfl) (by kernel_rfl) (by kernel_rfl) (by decide) (by kernel_rfl) (by kernel_rfl) (fun _ _ _ h => h) (by rfl) (fun W' hS' => by obtain ⟨s1, s2, s3, s4⟩ := hS'; go_simp) HS.out ?_
              simp only [Act.put, List.setIfInBounds_toArray, List.set_cons_zero, List.set_cons_succ]
              refine tTake 13 (some 47) (.int .u64 id) rfl rfl (by kernel_rfl) (by kernel_rfl) (by kernel_rfl) (by decide) (fun _ _ _ h => h) (by rfl) (fun _ => by rfl) HS.out ?_
              simp only [Act.put, List.setIfInBounds_toArray, List.set_cons_zero, List.set_cons_succ]
              refine tTake 14 (some 48) (.pointer (some ⟨w.heap.size, id, none⟩)) rfl rfl (by kernel_rfl) (by kernel_rfl) (by kernel_rfl) (by decide) (fun _ _ _ h => h) (by rfl) (fun _ => by go_simp) HS.out ?_
              simp only [Act.put, List.setIfInBounds_toArray, List.set_cons_zero, List.set_cons_succ]
              refine tLoad 15 (some 49) (.int .u32 vd) rfl rfl (by kernel_rfl) (by kernel_rfl) (by kernel_rfl) (by decide) (by kernel_rfl) (by kernel_rfl) (fun _ _ _ h => h) (by rfl) (fun W' hS' => by obtain ⟨s1, s2, s3, s4⟩ := hS'; go_simp) HS.out ?_
              simp only [Act.put, List.setIfInBounds_toArray, List.set_cons_zero, List.set_cons_succ]
              refine till_at (by kernel_rfl) ?_
              refine wpAny_ready (rs := [16]) (by kernel_rfl) (by simp) (AllReady.cons rfl (fun K hK => ?_) AllReady.nil)
              go_simp
              go_wp2_with (go_at_call 98; refine (quarter_any va vb vc vd _).mono ?_; rintro e w' ⟨rfl, rfl⟩)
              have HQ : Hid (quarter ⟨va, vb, vc, vd⟩ = q) := hq
              clear hq
              refine take_op 17 (some 33) (.tuple #[.int .u32 q.a, .int .u32 q.b, .int .u32 q.c, .int .u32 q.d]) rfl rfl (by kernel_rfl) (by kernel_rfl) (by kernel_rfl) (fun _ _ _ h => h) (by rfl) (fun _ => by rfl) ?_
              simp only [Act.put, List.setIfInBounds_toArray, List.set_cons_zero, List.set_cons_succ]
              refine take_op 18 (some 51) (.int .u32 q.a) rfl rfl (by kernel_rfl) (by kernel_rfl) (by kernel_rfl) (fun _ _ _ h => h) (by rfl) (fun _ => by rfl) ?_
              simp only [Act.put, List.setIfInBounds_toArray, List.set_cons_zero, List.set_cons_succ]
              refine take_op 19 (some 52) (.int .u32 q.b) rfl rfl (by kernel_rfl) (by kernel_rfl) (by kernel_rfl) (fun _ _ _ h => h) (by rfl) (fun _ => by rfl) ?_
              simp only [Act.put, List.setIfInBounds_toArray, List.set_cons_zero, List.set_cons_succ]
              refine take_op 20 (some 53) (.int .u32 q.c) rfl rfl (by kernel_rfl) (by kernel_rfl) (by kernel_rfl) (fun _ _ _ h => h) (by rfl) (fun _ => by rfl) ?_
              simp only [Act.put, List.setIfInBounds_toArray, List.set_cons_zero, List.set_cons_succ]
              refine take_op 21 (some 54) (.int .u32 q.d) rfl rfl (by kernel_rfl) (by kernel_rfl) (by kernel_rfl) (fun _ _ _ h => h) (by rfl) (fun _ => by rfl) ?_
              simp only [Act.put, List.setIfInBounds_toArray, List.set_cons_zero, List.set_cons_succ]
              refine take_op 22 (some 55) (.pointer (some ⟨w.heap.size, ia, none⟩)) rfl rfl (by kernel_rfl) (by kernel_rfl) (by kernel_rfl) (fun _ _ _ h => h) (by rfl) (fun _ => by go_simp) ?_
              simp only [Act.put, List.setIfInBounds_toArray, List.set_cons_zero, List.set_cons_succ]
              have c0 := u32s_cell B0.out ia (by first | omega | (simp only [List.length_set]; omega))
              have f0 := B0.out.frozen ia
              have B1 : Hid (Blk (wd.setCell ⟨w.heap.size, ia, none⟩ (.int .u32 q.a)) w.heap.size 125 (u32s (sC.set ia q.a))) := by show Blk _ _ _ _; rw [← u32s_set]; exact B0.out.set _ _
              have K1 : Hid (Kept (fun b => b = w.heap.size) w2 (wd.setCell ⟨w.heap.size, ia, none⟩ (.int .u32 q.a))) := K0.out.setCell rfl _
              refine wpAny_ready (rs := [23]) (by kernel_rfl) (by simp) (AllReady.cons rfl (fun K hK => ?_) AllReady.nil)
              go_simp
              refine hK _ _ ?_
              clear hK K
              change wpAny _ _ _ _ _ _ _ (World.setCell wd ⟨w.heap.size, ia, none⟩ (.int .u32 q.a))
              obtain ⟨x1, hx1⟩ : ∃ x, World.setCell wd ⟨w.heap.size, ia, none⟩ (.int .u32 q.a) = x := ⟨_, rfl⟩
              rw [hx1] at B1 K1 ⊢
              clear hx1 c0 f0
              refine take_op 24 (some 56) (.pointer (some ⟨w.heap.size, ib, none⟩)) rfl rfl (by kernel_rfl) (by kernel_rfl) (by kernel_rfl) (fun _ _ _ h => h) (by rfl) (fun _ => by go_simp) ?_
              simp only [Act.put, List.setIfInBounds_toArray, List.set_cons_zero, List.set_cons_succ]
              have c1 := u32s_cell B1.out ib (by first | omega | (simp only [List.length_set]; omega))
              have f1 := B1.out.frozen ib
              have B2 : Hid (Blk (x1.setCell ⟨w.heap.size, ib, none⟩ (.int .u32 q.b)) w.heap.size 125 (u32s ((sC.set ia q.a).set ib q.b))) := by show Blk _ _ _ _; rw [← u32s_set]; exact B1.out.set _ _
              have K2 : Hid (Kept (fun b => b = w.heap.size) w2 (x1.setCell ⟨w.heap.size, ib, none⟩ (.int .u32 q.b))) := K1.out.setCell rfl _
              refine wpAny_ready (rs := [25]) (by kernel_rfl) (by simp) (AllReady.cons rfl (fun K hK => ?_) AllReady.nil)
              go_simp
              refine hK _ _ ?_
              clear hK K
              change wpAny _ _ _ _ _ _ _ (World.setCell x1 ⟨w.heap.size, ib, none⟩ (.int .u32 q.b))
              obtain ⟨x2, hx2⟩ : ∃ x, World.setCell x1 ⟨w.heap.size, ib, none⟩ (.int .u32 q.b) = x := ⟨_, rfl⟩
              rw [hx2] at B2 K2 ⊢
              clear hx2 c1 f1
              refine take_op 26 (some 57) (.pointer (some ⟨w.heap.size, ic, none⟩)) rfl rfl (by kernel_rfl) (by kernel_rfl) (by kernel_rfl) (fun _ _ _ h => h) (by rfl) (fun _ => by go_simp) ?_
              simp only [Act.put, List.setIfInBounds_toArray, List.set_cons_zero, List.set_cons_succ]
              have c2 := u32s_cell B2.out ic (by first | omega | (simp only [List.length_set]; omega))
              have f2 := B2.out.frozen ic
              have B3 : Hid (Blk (x2.setCell ⟨w.heap.size, ic, none⟩ (.int .u32 q.c)) w.heap.size 125 (u32s (((sC.set ia q.a).set ib q.b).set ic q.c))) := by show Blk _ _ _ _; rw [← u32s_set]; exact B2.out.set _ _
              have K3 : Hid (Kept (fun b => b = w.heap.size) w2 (x2.setCell ⟨w.heap.size, ic, none⟩ (.int .u32 q.c))) := K2.out.setCell rfl _
              refine wpAny_ready (rs := [27]) (by kernel_rfl) (by simp) (AllReady.cons rfl (fun K hK => ?_) AllReady.nil)
              go_simp
              refine hK _ _ ?_
              clear hK K
              change wpAny _ _ _ _ _ _ _ (World.setCell x2 ⟨w.heap.size, ic, none⟩ (.int .u32 q.c))
              obtain ⟨x3, hx3⟩ : ∃ x, World.setCell x2 ⟨w.heap.size, ic, none⟩ (.int .u32 q.c) = x := ⟨_, rfl⟩
              rw [hx3] at B3 K3 ⊢
              clear hx3 c2 f2
              refine take_op 28 (some 58) (.pointer (some ⟨w.heap.size, id, none⟩)) rfl rfl (by kernel_rfl) (by kernel_rfl) (by kernel_rfl) (fun _ _ _ h => h) (by rfl) (fun _ => by go_simp) ?_
              simp only [Act.put, List.setIfInBounds_toArray, List.set_cons_zero, List.set_cons_succ]
              have c3 := u32s_cell B3.out id (by first | omega | (simp only [List.length_set]; omega))
              have f3 := B3.out.frozen id
              have B4 : Hid (Blk (x3.setCell ⟨w.heap.size, id, none⟩ (.int .u32 q.d)) w.heap.size 125 (u32s ((((sC.set ia q.a).set ib q.b).set ic q.c).set id q.d))) := by show Blk _ _ _ _; rw [← u32s_set]; exact B3.out.set _ _
              have K4 : Hid (Kept (fun b => b = w.heap.size) w2 (x3.setCell ⟨w.heap.size, id, none⟩ (.int .u32 q.d))) := K3.out.setCell rfl _
              refine wpAny_ready (rs := [29]) (by kernel_rfl) (by simp) (AllReady.cons rfl (fun K hK => ?_) AllReady.nil)
              go_simp
              refine hK _ _ ?_
              clear hK K
              change wpAny _ _ _ _ _ _ _ (World.setCell x3 ⟨w.heap.size, id, none⟩ (.int .u32 q.d))
              obtain ⟨x4, hx4⟩ : ∃ x, World.setCell x3 ⟨w.heap.size, id, none⟩ (.int .u32 q.d) = x := ⟨_, rfl⟩
              rw [hx4] at B4 K4 ⊢
              clear hx4 c3 f3
              refine wpAny_done (by kernel_rfl) (NoPanic.normal ?_) _
              --ENDREGION
              go_wp2
              exact ⟨⟨c + 1, by omega, by go_num, by rw [E3.out, E5.out]; exact B4.out, K4.out⟩, by simp [intOf]; omega⟩
            · obtain rfl : c = 4 := by omega
              rw [show ((4 : Nat) : Int) = 4 from rfl]
              have X3 : Hid (Blk wr w.heap.size 125 (u32s (cols sq s 4)) ∧ Kept (fun b => b = w.heap.size) w2 wr) := ⟨hb, hkp⟩
              clear hb hkp
              go_wp2
              exact ⟨⟨s + 1, by omega, by go_num, by rw [E2.out]; exact X3.out.1, X3.out.2⟩, by simp [intOf]; omega⟩
        · obtain rfl : s = 2 := by omega
          rw [show ((2 : Nat) : Int) = 2 from rfl]
          have X3 : Hid (Blk wr w.heap.size 125 (u32s (slants sp 2)) ∧ Kept (fun b => b = w.heap.size) w2 wr) := ⟨hb, hkp⟩
          clear hb hkp
          go_wp2
          exact ⟨⟨p + 1, by omega, by go_num, by rw [E1.out]; exact X3.out.1, X3.out.2⟩, by simp [intOf]; omega⟩
    · obtain rfl : p = 10 := by omega
      rw [show ((10 : Nat) : Int) = 10 from rfl]
      have X3 : Hid (Blk wr w.heap.size 125 (u32s (stir st))) := hb
      have X4 : Hid (Blk wr (w.heap.size + 1) 125 (u32s (List.replicate 16 0))) := HB.out.2.1.kept hkp (by omega)
      have X5 : Hid (Below w.heap.size w wr) := below_kept HB.out.2.2 hkp (by omega) (fun j hj => by omega)
      have X6 : Hid ((u32s (stir st)).length = 16) := by show _ = _; rw [u32s_length, stir_length]; exact HZ.out
      clear hb hkp
      go_wp2_with (first | (refine wpList_load_blk rfl 125 _ rfl _ rfl (u32s (stir st)) _ X3.out Try.underlying125 rfl (by rw [X6.out]; exact sizeSt) ?_) | (refine wpList_store_blk rfl 125 125 _ _ rfl _ rfl _ (u32s (stir st)) rfl X4.out (by rw [X6.out, u32s_length, List.length_replicate]) (by rw [X6.out]; exact sizeSt) (u32s_one _) ?_; intro w5 b5 s5 k5))
      exact ret_blk rfl (w.heap.size + 1) (u32s (stir st)) _ rfl b5 Try.underlying125 rfl (by rw [X6.out]; exact sizeSt) rfl ⟨rfl, below_kept X5.out k5 X5.out.size (fun j hj => by omega)⟩
end Go.Proofs.Ytcimiajkbgabiaa

namespace Go.Proofs.Ytcimiajkbgabiaa
open Go.RowKit
set_option linter.unusedVariables false
set_option linter.unusedSimpArgs false

theorem addW_words (xs ys : List Int) : ∀ z ∈ addW xs ys, 0 ≤ z ∧ z < 4294967296 := by
  intro z hz
  simp only [addW, List.mem_iff_getElem] at hz
  obtain ⟨i, hi, rfl⟩ := hz
  simp only [List.getElem_zipWith]
  omega
set_option maxRecDepth 20000 in
set_option maxHeartbeats 1000000 in
theorem block_any (key : List Int) (ctr : Int) (nonce : List Int) (hk : key.length = 32) (hn : nonce.length = 12) (hkb : Bytes key) (hnb : Bytes nonce) (w : World) :
    Calls Try.prog 56 #[.agg (u8s key).toArray, .int .u32 ctr, .agg (u8s nonce).toArray] w fun e w' => e = .returned (.agg (u8s (blkB key ctr nonce)).toArray) ∧ Below w.heap.size w w' := by
  have HS : Hid (key.length = 32 ∧ nonce.length = 12 ∧ Bytes key ∧ Bytes nonce) := ⟨hk, hn, hkb, hnb⟩
  clear hk hn hkb hnb
  have HL : Hid ((begW key ctr nonce).length = 16) := begW_length _ _ _
  obtain ⟨S, hS⟩ : ∃ x, begW key ctr nonce = x := ⟨_, rfl⟩
  rw [hS] at HL
  have HZ : Hid (begW key ctr nonce = S) := hS
  go_enter Try.func56, Try.ntmps56
  go_wp2_with (first | (refine wpList_box_new rfl 27 _ rfl (u8s key) rfl ?_; intro w1 b1 s1 l1) | (refine wpList_box_new rfl 42 _ rfl (u8s nonce) rfl ?_; intro w2 b2 s2 l2) | (refine wpList_alloc_new rfl 103 rfl 64 _ zero64b ?_; intro w3 b3 s3 l3; have K3 : Hid (Blk w3 w.heap.size 27 (u8s key) ∧ Blk w3 w1.heap.size 42 (u8s nonce)) := ⟨(b1.later l2 (by omega)).later l3 (by omega), b2.later l3 (by omega)⟩) | (refine wpList_load_blk rfl 27 _ rfl _ rfl (u8s key) _ K3.out.1 Try.underlying27 rfl (by rw [u8s_length, HS.out.1]; exact sizeKey) ?_) | (refine wpList_load_blk rfl 42 _ rfl _ rfl (u8s nonce) _ (by first | exact K3.out.2 | (rw [← s1]; exact K3.out.2)) Try.underlying42 rfl (by rw [u8s_length, HS.out.2.1]; exact sizeNonce) ?_) | (go_at_call 74; refine (begin_any key ctr nonce HS.out.1 HS.out.2.1 HS.out.2.2.1 HS.out.2.2.2 _).mono ?_; rintro e w4 ⟨rfl, l4⟩; rw [hS]) | (refine wpList_alloc_new rfl 125 rfl 16 _ zeroSt ?_; intro w5 b5 s5 l5) | (refine wpList_store_blk rfl 125 125 _ _ rfl _ rfl _ (u32s S) rfl b5 (by rw [u32s_length, u32s_length, HL.out]; rfl) (by rw [u32s_length, HL.out]; exact sizeSt) (u32s_one _) ?_; intro w6 b6 s6 k6))
  simp only [Act.put, List.setIfInBounds_toArray, List.set_cons_zero, List.set_cons_succ]
  obtain ⟨G, hG⟩ : ∃ G, w4.heap.size = G := ⟨_, rfl⟩
  rw [hG] at b6 k6 ⊢
  have HB : Hid (Blk w6 G 125 (u32s S) ∧ Blk w6 (w.heap.size + 1 + 1) 103 (u8s (List.replicate 64 0)) ∧ Below w.heap.size w w6 ∧ w.heap.size + 3 ≤ G ∧ G < w6.heap.size) := by
    have q4 := l4.size
    rw [s2, s1] at b3
    exact ⟨b6, ((b3.later l4 (by omega)).later l5 (by omega)).kept k6 (by omega), below_kept (below_chain (below_chain (below_chain (below_chain l1 l2 (by omega)) l3 (by omega)) l4 (by omega)) l5 (by omega)) k6 (by omega) (fun j hj => by omega), by omega, by omega⟩
  clear b1 s1 l1 b2 s2 l2 b3 s3 l3 l4 b5 s5 l5 b6 s6 k6 hG K3 hS
  refine wp_region_noPanic (till_region 5 (fun W => W.rangeAt G 0 (u32s S)) (by kernel_rfl) ?_)
  change wpTill _ _ _ _ _ _ _ _ w6.drew
  have RS : Hid (∀ W, Below w6.heap.size w6 W → W.rangeAt G 0 (u32s S)) := fun W hW j v hv => by rw [Nat.zero_add, (HB.out.1.later hW HB.out.2.2.2.2).cell]; exact hv
  have RG : Hid (w6.drew.rangeAt G 0 (u32s S)) := RS.out _ (below_dn (Below.refl _ _) 1)
  refine tLoadMid 0 (some 12) (u32s S) rfl rfl (by kernel_rfl) (by kernel_rfl) (by kernel_rfl) (by decide) (by kernel_rfl) (by kernel_rfl) (fun _ _ _ h => h) (by rfl) 125 (.tmp 7) rfl G 0 rfl _ (fun _ h => h) Try.underlying125 rfl (by rw [u32s_length, HL.out]; exact sizeSt) RG.out ?_
  simp only [Act.put, List.setIfInBounds_toArray, List.set_cons_zero, List.set_cons_succ]
  refine tLoadMid 2 (some 14) (u32s S) rfl rfl (by kernel_rfl) (by kernel_rfl) (by kernel_rfl) (by decide) (by kernel_rfl) (by kernel_rfl) (fun _ _ _ h => h) (by rfl) 125 (.tmp 7) rfl G 0 rfl _ (fun _ h => h) Try.underlying125 rfl (by rw [u32s_length, HL.out]; exact sizeSt) RG.out ?_
  simp only [Act.put, List.setIfInBounds_toArray, List.set_cons_zero, List.set_cons_succ]
  refine till_ready 1 (by kernel_rfl) rfl (fun K hK => ?_)
  go_simp
  go_wp2_with (go_at_call 77; refine (stirred_any S HL.out _).mono ?_; rintro e w7 ⟨rfl, l7⟩)
  have L7 : Below w6.heap.size w6 w7 := ⟨l7.os, l7.tape, l7.output, l7.size, l7.block⟩
  refine ⟨RS.out _ L7, ?_⟩
  refine till_ready 3 (by kernel_rfl) rfl (fun K hK => ?_)
  go_simp
  go_wp2_with (go_at_call 76; refine (plus_any (stir S) S (by rw [stir_length]; exact HL.out) HL.out _).mono ?_; rintro e w8 ⟨rfl, l8⟩)
  have L8 := below_chain L7 l8 L7.size
  refine ⟨RS.out _ L8, ?_⟩
  have HA : Hid ((addW (stir S) S).length = 16) := addW_length _ _ 16 (by rw [stir_length]; exact HL.out) HL.out
  refine till_ready 4 (by kernel_rfl) rfl (fun K hK => ?_)
  go_simp
  go_wp2_with (go_at_call 75; refine (bytesOf_any (addW (stir S) S) HA.out (addW_words _ _) _).mono ?_; rintro e w9 ⟨rfl, l9⟩)
  have L9 := below_chain L8 l9 L8.size
  refine ⟨RS.out _ L9, till_at (by kernel_rfl) ?_⟩
  obtain ⟨O, hO⟩ : ∃ x, wB (addW (stir S) S) 16 = x := ⟨_, rfl⟩
  have E3 : Hid (O.length = 64 ∧ blkB key ctr nonce = O) := by rw [← hO]; exact ⟨wB_length _ 16 (by rw [HA.out]; decide), by rw [blkB, blkW, HZ.out]⟩
  rw [hO]
  have HC : Hid (Blk w9 (w.heap.size + 1 + 1) 103 (u8s (List.replicate 64 0)) ∧ Below w.heap.size w w9 ∧ w.heap.size + 3 ≤ w9.heap.size) := by
    have := L9.size
    have := HB.out.2.2.2
    exact ⟨HB.out.2.1.later L9 (by omega), below_chain HB.out.2.2.1 L9 (by omega), by omega⟩
  clear l7 l8 l9 L7 L8 L9 RS RG HB hO HA
  have HT : w9.there (w.heap.size + 1 + 1) 0 (u8s O).length := HC.out.1.there (by rw [u8s_length, E3.out.1, u8s_length]; decide)
  have u4 : (Try.prog.info? 103).map (·.size) = some (u8s O).length := by rw [u8s_length, E3.out.1]; exact size64b
  have HD : Hid (Blk (w9.setCells (w.heap.size + 1 + 1) 0 (u8s O)) (w.heap.size + 1 + 1) 103 (u8s O) ∧ Kept (fun k => k = w.heap.size + 1 + 1) w9 (w9.setCells (w.heap.size + 1 + 1) 0 (u8s O))) := by
    refine ⟨?_, (Kept.refl (fun k => k = w.heap.size + 1 + 1) _).setCells (S := fun k => k = w.heap.size + 1 + 1) rfl _ _⟩
    have := Blk.setCells (xs := []) (zs := []) (u8s O) (u8s (List.replicate 64 0)) (by rw [u8s_length, E3.out.1, u8s_length]; rfl) (by simpa using HC.out.1)
    simpa using this
  refine one_step 5 rfl (by kernel_rfl) (fun K h => step_store rfl (by rfl) 103 (.tmp 6) (.tmp 16) rfl (w.heap.size + 1 + 1) 0 rfl (u8s O) rfl HT u4 (u8s_one _) h) ?_
  obtain ⟨wa, hwa⟩ : ∃ x, w9.setCells (w.heap.size + 1 + 1) 0 (u8s O) = x := ⟨_, rfl⟩
  rw [hwa] at HD ⊢
  clear hwa HT u4
  refine wpAny_done (by kernel_rfl) (NoPanic.normal ?_) _
  go_wp2_with fail
  exact ret_blk rfl (w.heap.size + 1 + 1) (u8s O) _ rfl HD.out.1 Try.underlying103 rfl (by rw [u8s_length, E3.out.1]; exact size64b) rfl ⟨by rw [E3.out.2], below_kept HC.out.2.1 HD.out.2 (by have := HC.out.2.2; omega) (fun j hj => by omega)⟩
end Go.Proofs.Ytcimiajkbgabiaa

namespace Go.Proofs.Ytcimiajkbgabiaa
open Go.RowKit
set_option linter.unusedVariables false
set_option linter.unusedSimpArgs false

/-- The mark at a place of the room behind a list. -/
def markB (i : Nat) : Int := bits .xor .i64 165 (i : Int) % 256
def spared (zs : List Int) : List Int := zs ++ (List.range 80).map (fun j => markB (zs.length + j))
theorem spared_length (zs : List Int) : (spared zs).length = zs.length + 80 := by simp [spared]
theorem spared_front (zs : List Int) (i : Nat) (hi : i < zs.length) : (spared zs).getD i 0 = zs.getD i 0 := by
  simp [spared, List.getD, List.getElem?_append_left hi]
theorem spared_mark (zs : List Int) (i : Nat) (h1 : zs.length ≤ i) (h2 : i < zs.length + 80) : (spared zs).getD i 0 = markB i := by
  obtain ⟨j, rfl⟩ : ∃ j, i = zs.length + j := ⟨i - zs.length, by omega⟩
  have hj : j < 80 := by omega
  simp [spared, List.getD, hj]
theorem take_next (xs : List Int) (k : Nat) (hk : k < xs.length) (n : Nat) : (xs.take k ++ List.replicate (n + 1) 0).set k (xs.getD k 0) = xs.take (k + 1) ++ List.replicate n 0 := by
  have e : (xs.take k).length = k := by simp; omega
  have h := set_next (xs.take k) n (xs.getD k 0) 0
  rw [e] at h
  rw [h, List.take_succ_eq_append_getElem hk]
  simp [List.getD, hk]
theorem made_zero (n : Nat) : (madeCells #[Value.int .u8 0] n) = (u8s (List.replicate n 0)).toArray := by
  apply Array.ext'
  rw [toList_madeCells_one]
  simp [u8s]
set_option maxHeartbeats 1000000 in
set_option maxRecDepth 20000 in
theorem spare_any (ao : Option Addr) (n c : Nat) (zs : List Int) (w : World) (hx : Seen w ao n zs) (hn : n ≤ 35184372088832) :
    Calls Try.prog 14 #[.slice ao n c] w fun e w' => e = .returned (.slice (some ⟨w.heap.size, 0, none⟩) n (n + 80)) ∧ Blk w' w.heap.size 5 (u8s (spared zs)) ∧ w'.heap.size = w.heap.size + 1 ∧ Below w.heap.size w w' := by
  have HL : Hid (zs.length = n) := hx.len
  have HX : Hid (Seen w ao n zs) := hx
  obtain ⟨i0, hi, hz0, hz1, hz2⟩ := info_parts info_byte
  have hmk := run_make (P := Try.prog) w 22 5 i0 (.int .u8 0) Try.underlying22 hi hz0 .i64 .i64 ((n : Int) + 80) ((n : Int) + 80) (by omega) (Int.le_refl _) (by rw [hz2]; omega) (by omega)
  rw [hz1, show (((n : Int) + 80).toNat) = n + 80 by omega, Nat.mul_one, show (Value.int .u8 0).cells = #[.int .u8 0] from rfl, made_zero] at hmk
  obtain ⟨w1, hw1, HB⟩ : ∃ w1, w.alloc (.cells (u8s (List.replicate (n + 80) 0)).toArray 5) = w1 ∧ Hid (Blk w1 w.heap.size 5 (u8s (List.replicate (n + 80) 0)) ∧ Below w.heap.size w w1 ∧ w1.heap.size = w.heap.size + 1) := ⟨_, rfl, ⟨heap_alloc_new w _, (Below.refl _ _).alloc (Nat.le_refl _) _, by simp⟩⟩
  rw [hw1] at hmk
  clear hw1 hx hi hz0 hz1 hz2
  go_enter Try.func14, Try.ntmps14
  go_wp2
  go_loopw [4] (fun i wr => ∃ k : Nat, k ≤ n + 80 ∧ i = .int .i64 k ∧ Blk wr w.heap.size 5 (u8s ((spared zs).take k ++ List.replicate (n + 80 - k) 0)) ∧ Kept (fun b => b = w.heap.size) w1 wr ∧ wr.heap.size = w.heap.size + 1) (fun i _ => n + 80 - (intOf i).toNat)
  case atStart => exact ⟨0, Nat.zero_le _, rfl, HB.out.1, Kept.refl _ _, HB.out.2.2⟩
  case round =>
    obtain ⟨k, hk, rfl, hb, hkp, hws⟩ := hrel
    have hsl := spared_length zs
    have hl := HL.out
    by_cases hlt : k < n + 80
    · have cs := u8s_cell hb k (by simp [hsl]; omega)
      have fs := hb.frozen k
      have i1 : (0 : Int) ≤ (k : Int) := by omega
      have i2 : (k : Int) < (n : Int) + 80 := by omega
      have HT := take_next (spared zs) k (by omega) (n + 80 - (k + 1))
      rw [show n + 80 - (k + 1) + 1 = n + 80 - k by omega] at HT
      have HE : Hid (((spared zs).take k ++ List.replicate (n + 80 - k) 0).set k ((spared zs).getD k 0) = (spared zs).take (k + 1) ++ List.replicate (n + 80 - (k + 1)) 0) := HT
      have X0 : Hid (Blk wr w.heap.size 5 (u8s ((spared zs).take k ++ List.replicate (n + 80 - k) 0)) ∧ Kept (fun b => b = w.heap.size) w1 wr ∧ wr.heap.size = w.heap.size + 1) := ⟨hb, hkp, hws⟩
      by_cases hin : k < n
      · obtain ⟨b, o, rfl, hbl, hc⟩ := HX.out.cells (by omega)
        have c1 : wr.cell? ⟨b, o + k, none⟩ = some (.int .u8 (zs.getD k 0)) := (hkp.cell (p := ⟨b, o + k, none⟩) (by show b < _; have := HB.out.2.2; omega) (by show ¬ b = _; omega)).trans ((HB.out.2.1.cell (p := ⟨b, o + k, none⟩) hbl).trans (hc k hin))
        have HV : Hid ((spared zs).getD k 0 = zs.getD k 0) := spared_front zs k (by omega)
        obtain ⟨Z, hZ⟩ : ∃ Z, zs.getD k 0 = Z := ⟨_, rfl⟩
        rw [hZ] at c1 HV
        have i3 : (k : Int) < (n : Int) := by omega
        clear hb hkp hZ hc HT hsl hl hws
        go_wp2
        have R1 := X0.out.1.set k (.int .u8 Z)
        rw [u8s_set, ← HV.out, HE.out, HV.out] at R1
        exact ⟨⟨k + 1, by omega, by go_num, R1, X0.out.2.1.setCell (S := fun b => b = w.heap.size) rfl _, by have := X0.out.2.2; simpa [World.setCell] using this⟩, by simp [intOf]; omega⟩
      · have HV : Hid ((spared zs).getD k 0 = markB k) := spared_mark zs k (by omega) (by omega)
        have i3 : ¬ (k : Int) < (n : Int) := by omega
        clear hb hkp HT hsl hl hws
        go_wp2
        have R1 := X0.out.1.set k (.int .u8 (markB k))
        rw [u8s_set, ← HV.out, HE.out, HV.out] at R1
        exact ⟨⟨k + 1, by omega, by go_num, R1, X0.out.2.1.setCell (S := fun b => b = w.heap.size) rfl _, by have := X0.out.2.2; simpa [World.setCell] using this⟩, by simp [intOf]; omega⟩
    · obtain rfl : k = n + 80 := by omega
      rw [Nat.sub_self, List.replicate_zero, List.append_nil, List.take_of_length_le (by omega)] at hb
      have X3 : Hid (Blk wr w.heap.size 5 (u8s (spared zs)) ∧ wr.heap.size = w.heap.size + 1 ∧ Below w.heap.size w wr) := ⟨hb, hws, below_kept HB.out.2.1 hkp HB.out.2.1.size (fun j hj => by omega)⟩
      clear hb hkp hws hsl hl
      go_wp2
      go_ret
      exact ⟨rfl, X3.out.1, X3.out.2.1, X3.out.2.2⟩
set_option maxHeartbeats 1000000 in
set_option maxRecDepth 20000 in
theorem eqb_yes (ao bo : Option Addr) (n c d : Nat) (zs : List Int) (w : World) (hx : Seen w ao n zs) (hy : Seen w bo n zs) :
    Calls Try.prog 13 #[.slice ao n c, .slice bo n d] w fun e w' => e = .returned (.bool true) ∧ ∃ q, w' = w.drewN q := by
  have t1 := hx.top
  go_enter Try.func13, Try.ntmps13
  go_wp2
  go_loopw [5] (fun i wr => ∃ k : Nat, k ≤ n ∧ i = .int .i64 k ∧ ∃ q, wr = w.drewN q) (fun i _ => n - (intOf i).toNat)
  case atStart => exact ⟨0, Nat.zero_le _, rfl, 0, rfl⟩
  case round =>
    obtain ⟨k, hk, rfl, q, rfl⟩ := hrel
    by_cases hlt : k < n
    · obtain ⟨b, o, rfl, hb, hc⟩ := hx.cells (by omega)
      obtain ⟨b2, o2, rfl, hb2, hc2⟩ := hy.cells (by omega)
      have c1 : (w.drewN q).cell? ⟨b, o + k, none⟩ = some (.int .u8 (zs.getD k 0)) := hc k hlt
      have c2 : (w.drewN q).cell? ⟨b2, o2 + k, none⟩ = some (.int .u8 (zs.getD k 0)) := hc2 k hlt
      obtain ⟨Z, hZ⟩ : ∃ Z, zs.getD k 0 = Z := ⟨_, rfl⟩
      rw [hZ] at c1 c2
      obtain ⟨wr, hwr⟩ : ∃ wr, w.drewN q = wr := ⟨_, rfl⟩
      rw [hwr] at c1 c2 ⊢
      have HW : Hid (w.drewN q = wr) := hwr
      have i1 : (0 : Int) ≤ (k : Int) := by omega
      have i2 : (k : Int) < (n : Int) := by omega
      clear hZ hc hc2 hx hy hwr
      go_wp2
      go_quiet (fail)
      go_wp2
      refine ⟨⟨k + 1, by omega, by go_num, q + nq, ?_⟩, by simp [intOf]; omega⟩
      rw [← HW.out, World.drewN_drewN]
    · obtain rfl : k = n := by omega
      clear hx hy
      go_wp2
      go_ret
      exact ⟨rfl, q, rfl⟩
/-- A list with marked room, as data. -/
theorem spared_seen {w : World} {g : Nat} {zs : List Int} (h : Blk w g 5 (u8s (spared zs))) (hb : Bytes zs) (ht : zs.length ≤ 35184372088832) : Seen w (some ⟨g, 0, none⟩) zs.length zs :=
  ⟨rfl, by omega, hb, fun _ => ⟨g, 0, rfl, h.lt, fun i hi => by rw [Nat.zero_add, u8s_cell h i (by rw [spared_length]; omega), spared_front zs i hi]⟩⟩
set_option maxHeartbeats 1000000 in
set_option maxRecDepth 20000 in
theorem kept_yes (g : Nat) (bo : Option Addr) (n d : Nat) (zs : List Int) (w : World) (hx : Blk w g 5 (u8s (spared zs))) (hy : Seen w bo n zs) (hn : n ≤ 35184372088832) :
    Calls Try.prog 16 #[.slice (some ⟨g, 0, none⟩) n (n + 80), .slice bo n d] w fun e w' => e = .returned (.bool true) ∧ ∃ q, w' = w.drewN q := by
  have hl := hy.len
  have S1 : Hid (Seen w (some ⟨g, 0, none⟩) n zs) := by
    have := spared_seen hx hy.bytes (by omega)
    rwa [hl] at this
  have HY : Hid (Seen w bo n zs ∧ Blk w g 5 (u8s (spared zs)) ∧ zs.length = n) := ⟨hy, hx, hl⟩
  clear hx hy hl
  go_enter Try.func16, Try.ntmps16
  go_wp2_with fail
  refine (eqb_yes _ bo n (n + 80) d zs w S1.out HY.out.1).mono ?_
  rintro e w1 ⟨rfl, q, rfl⟩
  go_wp2
  go_loopw [6] (fun i wr => ∃ k : Nat, n ≤ k ∧ k ≤ n + 80 ∧ i = .int .i64 k ∧ ∃ q, wr = w.drewN q) (fun i _ => n + 80 - (intOf i).toNat)
  case atStart => exact ⟨n, Nat.le_refl _, by omega, rfl, q, rfl⟩
  case round =>
    obtain ⟨k, hk0, hk, rfl, q, rfl⟩ := hrel
    by_cases hlt : k < n + 80
    · have c1 : (w.drewN q).cell? ⟨g, k, none⟩ = some (.int .u8 (markB k)) := by
        have := u8s_cell HY.out.2.1 k (by rw [spared_length, HY.out.2.2]; omega)
        rw [spared_mark zs k (by rw [HY.out.2.2]; exact hk0) (by rw [HY.out.2.2]; exact hlt)] at this
        exact this
      rw [markB] at c1
      have i1 : (0 : Int) ≤ (k : Int) := by omega
      have i2 : (k : Int) < (n : Int) + 80 := by omega
      go_wp2
      exact ⟨⟨k + 1, by omega, by omega, by go_num, q, rfl⟩, by simp [intOf]; omega⟩
    · obtain rfl : k = n + 80 := by omega
      go_wp2
      go_ret
      exact ⟨rfl, q, rfl⟩
end Go.Proofs.Ytcimiajkbgabiaa

namespace Go.Proofs.Ytcimiajkbgabiaa
open Go.RowKit
set_option linter.unusedVariables false
set_option linter.unusedSimpArgs false

theorem wB_take (st : List Int) (a b : Nat) (h : a ≤ b) (hb : b ≤ st.length) : wB st a = (wB st b).take (4 * a) := by
  induction b with
  | zero =>
    obtain rfl : a = 0 := by omega
    rfl
  | succ b ih =>
    rcases Nat.lt_or_ge a (b + 1) with h1 | h1
    · rw [wB_succ st b (by omega), List.take_append_of_le_length (by rw [wB_length _ _ (by omega)]; omega)]; exact ih (by omega) (by omega)
    · obtain rfl : a = b + 1 := by omega
      rw [List.take_of_length_le (by rw [wB_length _ _ hb]; exact Nat.le_refl _)]
/-- A slice of these bytes that begins no earlier. -/
def isF (base : Nat) (zs : List Int) (v : Value) (w : World) : Prop := ∃ vo n c, v = .slice vo n c ∧ Seen w vo n zs ∧ ∀ b o, vo = some ⟨b, o, none⟩ → base ≤ b
theorem isF_later (base : Nat) (zs : List Int) : ∀ v w w', Below w.heap.size w w' → isF base zs v w → isF base zs v w' := fun _ _ _ hb ⟨b, o, c, h1, h2, h3⟩ => ⟨b, o, c, h1, h2.later hb (Nat.le_refl _), h3⟩
/-- The quarters of a pass, one by one. -/
def passT (st : List Int) : Nat → List Int
  | 0 => st
  | T + 1 => colStep (passT st T) (T / 4) (T % 4)
theorem passT_8 (st : List Int) : passT st 8 = slants st 2 := rfl
theorem passT_length (st : List Int) (n : Nat) : (passT st n).length = st.length := by
  induction n with
  | zero => rfl
  | succ n ih => rw [passT, colStep_length, ih]
theorem wds_set {st : List Int} (h : Wds st) (i : Nat) (x : Int) (hx : Wd x) : Wds (st.set i x) := fun z hz => by
  rcases List.mem_or_eq_of_mem_set hz with h1 | rfl
  · exact h z h1
  · exact hx
theorem tl16 : TurnL 16 := by unfold TurnL; decide
theorem quarter_wd (q : Q4) (ha : Wd q.a) (hb : Wd q.b) (hc : Wd q.c) (hd : Wd q.d) : Wd (quarter q).a ∧ Wd (quarter q).b ∧ Wd (quarter q).c ∧ Wd (quarter q).d := by
  have h := half_wd q 16 12 ha hb hc hd (by unfold TurnL; decide) (by unfold TurnL; decide)
  exact half_wd _ 8 7 h.1 h.2.1 h.2.2.1 h.2.2.2 (by unfold TurnL; decide) (by unfold TurnL; decide)
theorem getD_wd {st : List Int} (h : Wds st) (i : Nat) : Wd (st.getD i 0) := by
  by_cases hi : i < st.length
  · exact h.at i hi
  · rw [List.getD, List.getElem?_eq_none (by omega)]; exact ⟨by decide, by decide⟩
theorem qPut_wd {st : List Int} (h : Wds st) (q : Q4) (hq : Wd q.a ∧ Wd q.b ∧ Wd q.c ∧ Wd q.d) (i j k l : Nat) : Wds (qPut st q i j k l) := wds_set (wds_set (wds_set (wds_set h i _ hq.1) j _ hq.2.1) k _ hq.2.2.1) l _ hq.2.2.2
theorem colStep_wd {st : List Int} (h : Wds st) (s c : Nat) : Wds (colStep st s c) := qPut_wd h _ (quarter_wd _ (getD_wd h _) (getD_wd h _) (getD_wd h _) (getD_wd h _)) _ _ _ _
theorem passT_wd {st : List Int} (h : Wds st) (n : Nat) : Wds (passT st n) := by
  induction n with
  | zero => exact h
  | succ n ih => exact colStep_wd ih _ _
theorem passN_wd {st : List Int} (h : Wds st) (n : Nat) : Wds (passN st n) := by
  induction n with
  | zero => exact h
  | succ n ih => rw [passN, ← passT_8]; exact passT_wd ih 8
/-- Where quarter T stands. -/
theorem pl_at : ∀ T : Nat, T < 8 → placesL.getD (4 * T) 0 = ((T % 4 % 4 : Nat) : Int) ∧ placesL.getD (4 * T + 1) 0 = ((4 + (T % 4 + T / 4) % 4 : Nat) : Int) ∧ placesL.getD (4 * T + 2) 0 = ((8 + (T % 4 + 2 * (T / 4)) % 4 : Nat) : Int) ∧ placesL.getD (4 * T + 3) 0 = ((12 + (T % 4 + 3 * (T / 4)) % 4 : Nat) : Int) := by decide
/-- The first words of a quarter laid back. -/
def putN (st : List Int) (ps : List Nat) (qs : List Int) (n : Nat) : List Int := (List.range n).foldl (fun s j => s.set (ps.getD j 0) (qs.getD j 0)) st
theorem putN_succ (st : List Int) (ps : List Nat) (qs : List Int) (n : Nat) : putN st ps qs (n + 1) = (putN st ps qs n).set (ps.getD n 0) (qs.getD n 0) := by simp [putN, List.range_succ]
theorem putN_length (st : List Int) (ps : List Nat) (qs : List Int) (n : Nat) : (putN st ps qs n).length = st.length := by
  induction n with
  | zero => rfl
  | succ n ih => rw [putN_succ, List.length_set, ih]
theorem putN_4 (st : List Int) (p0 p1 p2 p3 : Nat) (q : Q4) : putN st [p0, p1, p2, p3] q.list 4 = qPut st q p0 p1 p2 p3 := rfl
theorem build4 (a b c d : Int) (w : World) : (Instr.build 141 #[(0, .int .u64 a), (1, .int .u64 b), (2, .int .u64 c), (3, .int .u64 d)]).run Try.prog w = .ok (.agg (q64s [a, b, c, d]).toArray) w := by kernel_rfl
/-- What stands while the words are stirred. -/
structure Env (w W : World) (R gf cf gp gl cl : Nat) (st L : List Int) : Prop where
  bel : Below w.heap.size w W
  res : Blk W R 103 (u8s (zs0 64))
  fst : RowU W gf cf st
  pls : RowN W gp 32 placesL
  row : RowU W gl cl L
  new : w.heap.size ≤ gl
theorem Env.later {w W W' : World} {R gf cf gp gl cl : Nat} {st L : List Int} (h : Env w W R gf cf gp gl cl st L) (hb : Below W.heap.size W W') : Env w W' R gf cf gp gl cl st L :=
  ⟨below_chain h.bel hb h.bel.size, h.res.later hb h.res.lt, h.fst.later hb (Nat.le_refl _), h.pls.later hb (Nat.le_refl _), h.row.later hb (Nat.le_refl _), h.new⟩
theorem Env.set {w W : World} {R gf cf gp gl cl : Nat} {st L : List Int} (h : Env w W R gf cf gp gl cl st L) (ha : R ≠ gl ∧ gf ≠ gl ∧ gp ≠ gl) (j : Nat) (hj : j < L.length) (z : Int) : Env w (W.setCell ⟨gl, j, none⟩ (.int .u64 z)).drew R gf cf gp gl cl st (L.set j z) := by
  have k : Kept (fun x => x = gl) W (W.setCell ⟨gl, j, none⟩ (.int .u64 z)).drew := ((Kept.refl (fun x => x = gl) W).setCell (p := ⟨gl, j, none⟩) rfl _).drew
  exact ⟨below_kept h.bel k h.bel.size (fun i hi => by have := h.new; omega), h.res.kept k ha.1, h.fst.block (k.block gf h.fst.lt ha.2.1), h.pls.block (k.block gp h.pls.lt ha.2.2), (h.row.set j hj z).drew, h.new⟩
set_option maxRecDepth 20000 in
set_option maxHeartbeats 4000000 in
theorem rblock_any (key : List Int) (ctr : Int) (nonce : List Int) (hk : key.length = 32) (hn : nonce.length = 12) (hkb : Bytes key) (hnb : Bytes nonce) (hc : Wd ctr) (w : World) :
    Calls Try.prog 62 #[.agg (u8s key).toArray, .int .u32 ctr, .agg (u8s nonce).toArray] w fun e w' => e = .returned (.agg (u8s (blkB key ctr nonce)).toArray) ∧ Below w.heap.size w w' := by
  obtain ⟨Y, hY⟩ : ∃ Y, blkB key ctr nonce = Y := ⟨_, rfl⟩
  obtain ⟨st, hst⟩ : ∃ st, begW key ctr nonce = st := ⟨_, rfl⟩
  have HS : Hid (key.length = 32 ∧ nonce.length = 12 ∧ Bytes key ∧ Bytes nonce ∧ Wd ctr) := ⟨hk, hn, hkb, hnb, hc⟩
  have HY : Hid (Y.length = 64 ∧ Bytes Y ∧ wB (addW (passN st 10) st) 16 = Y ∧ st.length = 16 ∧ Wds st ∧ begW key ctr nonce = st) :=
    ⟨by rw [← hY, blkB_length], by rw [← hY]; exact blkB_bytes _ _ _, by rw [← hY, ← hst]; rfl, by rw [← hst, begW_length], by rw [← hst]; exact begW_wd key ctr nonce hk hn hkb hnb hc, hst⟩
  rw [hY]
  clear hk hn hkb hnb hc hY hst
  go_enter Try.func62, Try.ntmps62
  go_wp2_with (first | (refine wpList_box_new rfl 27 _ rfl (u8s key) rfl ?_; intro w1 b1 s1 l1) | (refine wpList_box_new rfl 42 _ rfl (u8s nonce) rfl ?_; intro w2 b2 s2 l2) | (refine wpList_alloc_new rfl 103 rfl 64 _ zero64b ?_; intro w3 b3 s3 l3; have K3 : Hid (Blk w3 w.heap.size 27 (u8s key) ∧ Blk w3 w1.heap.size 42 (u8s nonce)) := ⟨(b1.later l2 (by omega)).later l3 (by omega), b2.later l3 (by omega)⟩) | (refine wpList_load_blk rfl 27 _ rfl _ rfl (u8s key) _ K3.out.1 Try.underlying27 rfl (by rw [u8s_length, HS.out.1]; exact sizeKey) ?_) | (refine wpList_load_blk rfl 42 _ rfl _ rfl (u8s nonce) _ (by first | exact K3.out.2 | (rw [← s1]; exact K3.out.2)) Try.underlying42 rfl (by rw [u8s_length, HS.out.2.1]; exact sizeNonce) ?_))
  have H3 : Hid (Blk w3 w.heap.size 27 (u8s key) ∧ Blk w3 (w.heap.size + 1) 42 (u8s nonce) ∧ Blk w3 (w.heap.size + 1 + 1) 103 (u8s (zs0 64)) ∧ Below w.heap.size w w3 ∧ w3.heap.size = w.heap.size + 3) := by
    have k := K3.out.2
    rw [s1] at k
    rw [s2, s1] at b3
    exact ⟨K3.out.1, k, b3, below_chain (below_chain l1 l2 (by omega)) l3 (by omega), by omega⟩
  clear b1 s1 l1 b2 s2 l2 b3 s3 l3 K3
  refine (rstate_any key ctr nonce HS.out.1 HS.out.2.1 HS.out.2.2.1 HS.out.2.2.2.1 HS.out.2.2.2.2 w3).mono ?_
  rintro e w4 ⟨v4, rfl, o4, l4⟩
  rw [HY.out.2.2.2.2.2] at o4
  rcases ownU HY.out.2.2.2.1 o4 with ⟨_, h0, _⟩ | ⟨gf, cf, rfl, r4, g4, _, _⟩
  · cases h0
  have H4 : Hid (Blk w4 w.heap.size 27 (u8s key) ∧ Blk w4 (w.heap.size + 1) 42 (u8s nonce) ∧ Blk w4 (w.heap.size + 1 + 1) 103 (u8s (zs0 64)) ∧ Below w.heap.size w w4 ∧ RowU w4 gf cf st ∧ w.heap.size + 3 ≤ gf) := ⟨H3.out.1.later l4 H3.out.1.lt, H3.out.2.1.later l4 H3.out.2.1.lt, H3.out.2.2.1.later l4 H3.out.2.2.1.lt, below_chain H3.out.2.2.2.1 l4 H3.out.2.2.2.1.size, r4, by have := H3.out.2.2.2.2; omega⟩
  clear o4 l4 r4 g4 H3
  go_wp2_with (first | (refine wpList_load_blk rfl 27 _ rfl _ rfl (u8s key) _ H4.out.1 Try.underlying27 rfl (by rw [u8s_length, HS.out.1]; exact sizeKey) ?_) | (refine wpList_load_blk rfl 42 _ rfl _ rfl (u8s nonce) _ H4.out.2.1 Try.underlying42 rfl (by rw [u8s_length, HS.out.2.1]; exact sizeNonce) ?_))
  refine (rstate_any key ctr nonce HS.out.1 HS.out.2.1 HS.out.2.2.1 HS.out.2.2.2.1 HS.out.2.2.2.2 w4).mono ?_
  rintro e w5 ⟨v5, rfl, o5, l5⟩
  rw [HY.out.2.2.2.2.2] at o5
  rcases ownU HY.out.2.2.2.1 o5 with ⟨_, h0, _⟩ | ⟨gl, cl, rfl, r5, g5, _, _⟩
  · cases h0
  have H5 : Hid (Blk w5 (w.heap.size + 1 + 1) 103 (u8s (zs0 64)) ∧ Below w.heap.size w w5 ∧ RowU w5 gf cf st ∧ RowU w5 gl cl st ∧ w.heap.size + 3 ≤ gf ∧ gf < gl) := ⟨H4.out.2.2.1.later l5 H4.out.2.2.1.lt, below_chain H4.out.2.2.2.1 l5 H4.out.2.2.2.1.size, H4.out.2.2.2.2.1.later l5 (Nat.le_refl _), r5, H4.out.2.2.2.2.2, by have := H4.out.2.2.2.2.1.lt; omega⟩
  clear o5 l5 r5 g5 H4
  go_wp2_with fail
  refine (rplaces_any w5).mono ?_
  rintro e w6 ⟨gp, rfl, p6, g6, l6⟩
  have E6 : Hid (Env w w6 (w.heap.size + 1 + 1) gf cf gp gl cl st st ∧ (w.heap.size + 1 + 1 ≠ gl ∧ gf ≠ gl ∧ gp ≠ gl)) := by
    obtain ⟨h1, h2, h3, h4, h5, h6⟩ := H5.out
    have := h4.lt
    exact ⟨⟨below_chain h2 l6 h2.size, h1.later l6 h1.lt, h3.later l6 (Nat.le_refl _), p6, h4.later l6 (Nat.le_refl _), by omega⟩, by omega, by omega, by omega⟩
  have hap := E6.out.2
  clear p6 g6 l6 H5
  go_wp2_with fail
  go_loopw [10] (fun i wr => ∃ N : Nat, N ≤ 10 ∧ i = .int .i64 N ∧ Env w wr (w.heap.size + 1 + 1) gf cf gp gl cl st (passN st N)) (fun i _ => 10 - (intOf i).toNat)
  case atStart => exact ⟨0, Nat.zero_le _, rfl, E6.out.1⟩
  case round =>
    obtain ⟨N, hN, rfl, hE⟩ := hrel
    have EN : Hid (Env w wr (w.heap.size + 1 + 1) gf cf gp gl cl st (passN st N)) := hE
    clear hE
    by_cases hlt : N < 10
    · have i0 : (N : Int) < 10 := by omega
      obtain ⟨S, HSS⟩ : ∃ S, Hid (passN st N = S ∧ S.length = 16 ∧ Wds S) := ⟨_, ⟨rfl, by rw [passN_length]; exact HY.out.2.2.2.1, passN_wd HY.out.2.2.2.2.1 N⟩⟩
      rw [HSS.out.1] at EN
      obtain ⟨w7, hw7⟩ : ∃ W, W = wr := ⟨_, rfl⟩
      subst hw7
      go_wp2_with fail
      go_loopw [11] (fun i wr => ∃ T KK : Nat, T ≤ 8 ∧ KK = 4 * T ∧ i = .int .i64 KK ∧ Env w wr (w.heap.size + 1 + 1) gf cf gp gl cl st (passT S T)) (fun i _ => 32 - (intOf i).toNat)
      case atStart => exact ⟨0, 0, Nat.zero_le _, rfl, rfl, EN.out⟩
      case round =>
        obtain ⟨T, KK, hT, hKK, rfl, hE⟩ := hrel
        by_cases hlT : T < 8
        · have j1 : (KK : Int) < 32 := by omega
          have j2 : (0 : Int) ≤ (KK : Int) := by omega
          have j3 : (KK : Int) + 1 < 32 := by omega
          have j4 : (KK : Int) + 2 < 32 := by omega
          have j5 : (KK : Int) + 3 < 32 := by omega
          have j6 : (0 : Int) ≤ (KK : Int) + 1 := by omega
          have j7 : (0 : Int) ≤ (KK : Int) + 2 := by omega
          have j8 : (0 : Int) ≤ (KK : Int) + 3 := by omega
          have a1 : ((KK : Int) + 1).toNat = KK + 1 := by omega
          have a2 : ((KK : Int) + 2).toNat = KK + 2 := by omega
          have a3 : ((KK : Int) + 3).toNat = KK + 3 := by omega
          have v1 : IntKind.i64.wrap ((KK : Int) + 1) = (KK : Int) + 1 := by rw [IntKind.wrap_i64]; omega
          have v2 : IntKind.i64.wrap ((KK : Int) + 2) = (KK : Int) + 2 := by rw [IntKind.wrap_i64]; omega
          have v3 : IntKind.i64.wrap ((KK : Int) + 3) = (KK : Int) + 3 := by rw [IntKind.wrap_i64]; omega
          have hpl := pl_at T hlT
          rw [← hKK] at hpl
          obtain ⟨L, hL⟩ : ∃ L, passT S T = L := ⟨_, rfl⟩
          rw [hL] at hE
          obtain ⟨p0, hp0⟩ : ∃ p, T % 4 % 4 = p := ⟨_, rfl⟩
          obtain ⟨p1, hp1⟩ : ∃ p, 4 + (T % 4 + T / 4) % 4 = p := ⟨_, rfl⟩
          obtain ⟨p2, hp2⟩ : ∃ p, 8 + (T % 4 + 2 * (T / 4)) % 4 = p := ⟨_, rfl⟩
          obtain ⟨p3, hp3⟩ : ∃ p, 12 + (T % 4 + 3 * (T / 4)) % 4 = p := ⟨_, rfl⟩
          have q0 : p0 < 16 := by omega
          have q1 : p1 < 16 := by omega
          have q2 : p2 < 16 := by omega
          have q3 : p3 < 16 := by omega
          have hLl : L.length = 16 := by rw [← hL, passT_length]; exact HSS.out.2.1
          have hLw : Wds L := by rw [← hL]; exact passT_wd HSS.out.2.2 T
          have HN : Hid (passT S (T + 1) = qPut L (quarter (qOf L p0 p1 p2 p3)) p0 p1 p2 p3) := by show _ = _; rw [passT, hL, colStep, hp0, hp1, hp2, hp3]
          rw [hp0, hp1, hp2, hp3] at hpl
          have HE : Hid (Env w wr (w.heap.size + 1 + 1) gf cf gp gl cl st L ∧ L.length = 16 ∧ Wds L) := ⟨hE, hLl, hLw⟩
          have HP : Hid (∀ W, Below wr.heap.size wr W → W.cell? ⟨gp, KK, none⟩ = some (.int .i64 (p0 : Int)) ∧ W.cell? ⟨gp, KK + 1, none⟩ = some (.int .i64 (p1 : Int)) ∧ W.cell? ⟨gp, KK + 2, none⟩ = some (.int .i64 (p2 : Int)) ∧ W.cell? ⟨gp, KK + 3, none⟩ = some (.int .i64 (p3 : Int)) ∧ W.cell? ⟨gl, p0, none⟩ = some (.int .u64 (L.getD p0 0)) ∧ W.cell? ⟨gl, p1, none⟩ = some (.int .u64 (L.getD p1 0)) ∧ W.cell? ⟨gl, p2, none⟩ = some (.int .u64 (L.getD p2 0)) ∧ W.cell? ⟨gl, p3, none⟩ = some (.int .u64 (L.getD p3 0))) := fun W hW => by
            have e := HE.out.1.later hW
            have c := fun j (hj : j < 32) => e.pls.cell j (show j < placesL.length from hj)
            refine ⟨?_, ?_, ?_, ?_, e.row.cell p0 (by omega), e.row.cell p1 (by omega), e.row.cell p2 (by omega), e.row.cell p3 (by omega)⟩
            · rw [c KK (by omega), hpl.1]
            · rw [c (KK + 1) (by omega), hpl.2.1]
            · rw [c (KK + 2) (by omega), hpl.2.2.1]
            · rw [c (KK + 3) (by omega), hpl.2.2.2]
          have HPL : Hid (placesL.getD KK 0 = (p0 : Int) ∧ placesL.getD (KK + 1) 0 = (p1 : Int) ∧ placesL.getD (KK + 2) 0 = (p2 : Int) ∧ placesL.getD (KK + 3) 0 = (p3 : Int)) := hpl
          have HKK : Hid (KK = 4 * T) := hKK
          have k0 : (p0 : Int) < 16 := by omega
          have k1 : (p1 : Int) < 16 := by omega
          have k2 : (p2 : Int) < 16 := by omega
          have k3 : (p3 : Int) < 16 := by omega
          obtain ⟨q, hq⟩ : ∃ q, qOf L p0 p1 p2 p3 = q := ⟨_, rfl⟩
          have HQ : Hid (qOf L p0 p1 p2 p3 = q ∧ q = ⟨L.getD p0 0, L.getD p1 0, L.getD p2 0, L.getD p3 0⟩ ∧ Wd q.a ∧ Wd q.b ∧ Wd q.c ∧ Wd q.d) := ⟨hq, hq.symm, by rw [← hq]; exact getD_wd hLw _, by rw [← hq]; exact getD_wd hLw _, by rw [← hq]; exact getD_wd hLw _, by rw [← hq]; exact getD_wd hLw _⟩
          rw [hq] at HN
          clear hE hL hp0 hp1 hp2 hp3 hpl hLl hLw hKK hq
          go_wp2_with fail
          try simp only [Act.put, List.setIfInBounds_toArray, List.set_cons_zero, List.set_cons_succ]
          refine region_inv ((.val (.slice (some ⟨gl, 0, none⟩) 16 cl)) :: (.val (.slice (some ⟨gp, 0, none⟩) 32 32)) :: (.val (.int .i64 (KK : Int))) :: (.val (.pointer (some ⟨gp, KK, none⟩))) :: (.val (.int .i64 (p0 : Int))) :: (.val (.pointer (some ⟨gl, p0, none⟩))) :: (.val (.int .u64 (L.getD p0 0))) :: (.val (.slice (some ⟨gl, 0, none⟩) 16 cl)) :: (.val (.slice (some ⟨gp, 0, none⟩) 32 32)) :: (.val (.int .i64 (KK : Int))) :: (.val (.int .i64 ((KK : Int) + 1))) :: (.val (.pointer (some ⟨gp, KK + 1, none⟩))) :: (.val (.int .i64 (p1 : Int))) :: (.val (.pointer (some ⟨gl, p1, none⟩))) :: (.val (.int .u64 (L.getD p1 0))) :: (.val (.slice (some ⟨gl, 0, none⟩) 16 cl)) :: (.val (.slice (some ⟨gp, 0, none⟩) 32 32)) :: (.val (.int .i64 (KK : Int))) :: (.val (.int .i64 ((KK : Int) + 2))) :: (.val (.pointer (some ⟨gp, KK + 2, none⟩))) :: (.val (.int .i64 (p2 : Int))) :: (.val (.pointer (some ⟨gl, p2, none⟩))) :: (.val (.int .u64 (L.getD p2 0))) :: (.val (.slice (some ⟨gl, 0, none⟩) 16 cl)) :: (.val (.slice (some ⟨gp, 0, none⟩) 32 32)) :: (.val (.int .i64 (KK : Int))) :: (.val (.int .i64 ((KK : Int) + 3))) :: (.val (.pointer (some ⟨gp, KK + 3, none⟩))) :: (.val (.int .i64 (p3 : Int))) :: (.val (.pointer (some ⟨gl, p3, none⟩))) :: (.val (.int .u64 (L.getD p3 0))) :: (.val (.agg (q64s q.list).toArray)) :: (.val (.agg (q64s (quarter q).list).toArray)) :: (.blk 141 (q64s [0, 0, 0, 0])) :: []) (by kernel_rfl) (by kernel_rfl) (by kernel_rfl) ?_ ?_
          · refine Steps'.cons ?_ (Steps'.cons ?_ (Steps'.cons ?_ (Steps'.cons ?_ (Steps'.cons ?_ (Steps'.cons ?_ (Steps'.cons ?_ (Steps'.cons ?_ (Steps'.cons ?_ (Steps'.cons ?_ (Steps'.cons ?_ (Steps'.cons ?_ (Steps'.cons ?_ (Steps'.cons ?_ (Steps'.cons ?_ (Steps'.cons ?_ (Steps'.cons ?_ (Steps'.cons ?_ (Steps'.cons ?_ (Steps'.cons ?_ (Steps'.cons ?_ (Steps'.cons ?_ (Steps'.cons ?_ (Steps'.cons ?_ (Steps'.cons ?_ (Steps'.cons ?_ (Steps'.cons ?_ (Steps'.cons ?_ (Steps'.cons ?_ (Steps'.cons ?_ (Steps'.cons ?_ (Steps'.cons ?_ (Steps'.cons ?_ (Steps'.cons ?_ (Steps'.one _ _ _ _ _ _ _))))))))))))))))))))))))))))))))))
            · intro ax wx hb hs hd
              have h8 : ax.tmps.getD 8 undef = (.slice (some ⟨gl, 0, none⟩) 16 cl) := hs 8 (by kernel_rfl)
              refine Does.value (.slice (some ⟨gl, 0, none⟩) 16 cl) ?_ rfl
              go_simp
            · intro ax wx hb hs hd
              have h9 : ax.tmps.getD 9 undef = (.slice (some ⟨gp, 0, none⟩) 32 32) := hs 9 (by kernel_rfl)
              refine Does.value (.slice (some ⟨gp, 0, none⟩) 32 32) ?_ rfl
              go_simp
            · intro ax wx hb hs hd
              have h11 : ax.tmps.getD 11 undef = (.int .i64 (KK : Int)) := hs 11 (by kernel_rfl)
              refine Does.value (.int .i64 (KK : Int)) ?_ rfl
              go_simp
            · intro ax wx hb hs hd
              have h38 : ax.tmps.getD 38 undef = (.slice (some ⟨gp, 0, none⟩) 32 32) := hd 1 38 rfl (by kernel_rfl) (by decide)
              have h39 : ax.tmps.getD 39 undef = (.int .i64 (KK : Int)) := hd 2 39 rfl (by kernel_rfl) (by decide)
              refine Does.value (.pointer (some ⟨gp, KK, none⟩)) ?_ rfl
              go_simp
            · intro ax wx hb hs hd
              have h40 : ax.tmps.getD 40 undef = (.pointer (some ⟨gp, KK, none⟩)) := hd 3 40 rfl (by kernel_rfl) (by decide)
              have cx := (HP.out wx hb).1
              refine Does.value (.int .i64 (p0 : Int)) ?_ rfl
              go_simp
            · intro ax wx hb hs hd
              have h37 : ax.tmps.getD 37 undef = (.slice (some ⟨gl, 0, none⟩) 16 cl) := hd 0 37 rfl (by kernel_rfl) (by decide)
              have h41 : ax.tmps.getD 41 undef = (.int .i64 (p0 : Int)) := hd 4 41 rfl (by kernel_rfl) (by decide)
              refine Does.value (.pointer (some ⟨gl, p0, none⟩)) ?_ rfl
              go_simp
            · intro ax wx hb hs hd
              have h42 : ax.tmps.getD 42 undef = (.pointer (some ⟨gl, p0, none⟩)) := hd 5 42 rfl (by kernel_rfl) (by decide)
              have cx := (HP.out wx hb).2.2.2.2.1
              refine Does.value (.int .u64 (L.getD p0 0)) ?_ rfl
              go_simp
            · intro ax wx hb hs hd
              have h8 : ax.tmps.getD 8 undef = (.slice (some ⟨gl, 0, none⟩) 16 cl) := hs 8 (by kernel_rfl)
              refine Does.value (.slice (some ⟨gl, 0, none⟩) 16 cl) ?_ rfl
              go_simp
            · intro ax wx hb hs hd
              have h9 : ax.tmps.getD 9 undef = (.slice (some ⟨gp, 0, none⟩) 32 32) := hs 9 (by kernel_rfl)
              refine Does.value (.slice (some ⟨gp, 0, none⟩) 32 32) ?_ rfl
              go_simp
            · intro ax wx hb hs hd
              have h11 : ax.tmps.getD 11 undef = (.int .i64 (KK : Int)) := hs 11 (by kernel_rfl)
              refine Does.value (.int .i64 (KK : Int)) ?_ rfl
              go_simp
            · intro ax wx hb hs hd
              have h46 : ax.tmps.getD 46 undef = (.int .i64 (KK : Int)) := hd 9 46 rfl (by kernel_rfl) (by decide)
              refine Does.value (.int .i64 ((KK : Int) + 1)) ?_ rfl
              go_simp
            · intro ax wx hb hs hd
              have h45 : ax.tmps.getD 45 undef = (.slice (some ⟨gp, 0, none⟩) 32 32) := hd 8 45 rfl (by kernel_rfl) (by decide)
              have h47 : ax.tmps.getD 47 undef = (.int .i64 ((KK : Int) + 1)) := hd 10 47 rfl (by kernel_rfl) (by decide)
              refine Does.value (.pointer (some ⟨gp, KK + 1, none⟩)) ?_ rfl
              go_simp
            · intro ax wx hb hs hd
              have h48 : ax.tmps.getD 48 undef = (.pointer (some ⟨gp, KK + 1, none⟩)) := hd 11 48 rfl (by kernel_rfl) (by decide)
              have cx := (HP.out wx hb).2.1
              refine Does.value (.int .i64 (p1 : Int)) ?_ rfl
              go_simp
            · intro ax wx hb hs hd
              have h44 : ax.tmps.getD 44 undef = (.slice (some ⟨gl, 0, none⟩) 16 cl) := hd 7 44 rfl (by kernel_rfl) (by decide)
              have h49 : ax.tmps.getD 49 undef = (.int .i64 (p1 : Int)) := hd 12 49 rfl (by kernel_rfl) (by decide)
              refine Does.value (.pointer (some ⟨gl, p1, none⟩)) ?_ rfl
              go_simp
            · intro ax wx hb hs hd
              have h50 : ax.tmps.getD 50 undef = (.pointer (some ⟨gl, p1, none⟩)) := hd 13 50 rfl (by kernel_rfl) (by decide)
              have cx := (HP.out wx hb).2.2.2.2.2.1
              refine Does.value (.int .u64 (L.getD p1 0)) ?_ rfl
              go_simp
            · intro ax wx hb hs hd
              have h8 : ax.tmps.getD 8 undef = (.slice (some ⟨gl, 0, none⟩) 16 cl) := hs 8 (by kernel_rfl)
              refine Does.value (.slice (some ⟨gl, 0, none⟩) 16 cl) ?_ rfl
              go_simp
            · intro ax wx hb hs hd
              have h9 : ax.tmps.getD 9 undef = (.slice (some ⟨gp, 0, none⟩) 32 32) := hs 9 (by kernel_rfl)
              refine Does.value (.slice (some ⟨gp, 0, none⟩) 32 32) ?_ rfl
              go_simp
            · intro ax wx hb hs hd
              have h11 : ax.tmps.getD 11 undef = (.int .i64 (KK : Int)) := hs 11 (by kernel_rfl)
              refine Does.value (.int .i64 (KK : Int)) ?_ rfl
              go_simp
            · intro ax wx hb hs hd
              have h54 : ax.tmps.getD 54 undef = (.int .i64 (KK : Int)) := hd 17 54 rfl (by kernel_rfl) (by decide)
              refine Does.value (.int .i64 ((KK : Int) + 2)) ?_ rfl
              go_simp
            · intro ax wx hb hs hd
              have h53 : ax.tmps.getD 53 undef = (.slice (some ⟨gp, 0, none⟩) 32 32) := hd 16 53 rfl (by kernel_rfl) (by decide)
              have h55 : ax.tmps.getD 55 undef = (.int .i64 ((KK : Int) + 2)) := hd 18 55 rfl (by kernel_rfl) (by decide)
              refine Does.value (.pointer (some ⟨gp, KK + 2, none⟩)) ?_ rfl
              go_simp
            · intro ax wx hb hs hd
              have h56 : ax.tmps.getD 56 undef = (.pointer (some ⟨gp, KK + 2, none⟩)) := hd 19 56 rfl (by kernel_rfl) (by decide)
              have cx := (HP.out wx hb).2.2.1
              refine Does.value (.int .i64 (p2 : Int)) ?_ rfl
              go_simp
            · intro ax wx hb hs hd
              have h52 : ax.tmps.getD 52 undef = (.slice (some ⟨gl, 0, none⟩) 16 cl) := hd 15 52 rfl (by kernel_rfl) (by decide)
              have h57 : ax.tmps.getD 57 undef = (.int .i64 (p2 : Int)) := hd 20 57 rfl (by kernel_rfl) (by decide)
              refine Does.value (.pointer (some ⟨gl, p2, none⟩)) ?_ rfl
              go_simp
            · intro ax wx hb hs hd
              have h58 : ax.tmps.getD 58 undef = (.pointer (some ⟨gl, p2, none⟩)) := hd 21 58 rfl (by kernel_rfl) (by decide)
              have cx := (HP.out wx hb).2.2.2.2.2.2.1
              refine Does.value (.int .u64 (L.getD p2 0)) ?_ rfl
              go_simp
            · intro ax wx hb hs hd
              have h8 : ax.tmps.getD 8 undef = (.slice (some ⟨gl, 0, none⟩) 16 cl) := hs 8 (by kernel_rfl)
              refine Does.value (.slice (some ⟨gl, 0, none⟩) 16 cl) ?_ rfl
              go_simp
            · intro ax wx hb hs hd
              have h9 : ax.tmps.getD 9 undef = (.slice (some ⟨gp, 0, none⟩) 32 32) := hs 9 (by kernel_rfl)
              refine Does.value (.slice (some ⟨gp, 0, none⟩) 32 32) ?_ rfl
              go_simp
            · intro ax wx hb hs hd
              have h11 : ax.tmps.getD 11 undef = (.int .i64 (KK : Int)) := hs 11 (by kernel_rfl)
              refine Does.value (.int .i64 (KK : Int)) ?_ rfl
              go_simp
            · intro ax wx hb hs hd
              have h62 : ax.tmps.getD 62 undef = (.int .i64 (KK : Int)) := hd 25 62 rfl (by kernel_rfl) (by decide)
              refine Does.value (.int .i64 ((KK : Int) + 3)) ?_ rfl
              go_simp
            · intro ax wx hb hs hd
              have h61 : ax.tmps.getD 61 undef = (.slice (some ⟨gp, 0, none⟩) 32 32) := hd 24 61 rfl (by kernel_rfl) (by decide)
              have h63 : ax.tmps.getD 63 undef = (.int .i64 ((KK : Int) + 3)) := hd 26 63 rfl (by kernel_rfl) (by decide)
              refine Does.value (.pointer (some ⟨gp, KK + 3, none⟩)) ?_ rfl
              go_simp
            · intro ax wx hb hs hd
              have h64 : ax.tmps.getD 64 undef = (.pointer (some ⟨gp, KK + 3, none⟩)) := hd 27 64 rfl (by kernel_rfl) (by decide)
              have cx := (HP.out wx hb).2.2.2.1
              refine Does.value (.int .i64 (p3 : Int)) ?_ rfl
              go_simp
            · intro ax wx hb hs hd
              have h60 : ax.tmps.getD 60 undef = (.slice (some ⟨gl, 0, none⟩) 16 cl) := hd 23 60 rfl (by kernel_rfl) (by decide)
              have h65 : ax.tmps.getD 65 undef = (.int .i64 (p3 : Int)) := hd 28 65 rfl (by kernel_rfl) (by decide)
              refine Does.value (.pointer (some ⟨gl, p3, none⟩)) ?_ rfl
              go_simp
            · intro ax wx hb hs hd
              have h66 : ax.tmps.getD 66 undef = (.pointer (some ⟨gl, p3, none⟩)) := hd 29 66 rfl (by kernel_rfl) (by decide)
              have cx := (HP.out wx hb).2.2.2.2.2.2.2
              refine Does.value (.int .u64 (L.getD p3 0)) ?_ rfl
              go_simp
            · intro ax wx hb hs hd
              have h43 : ax.tmps.getD 43 undef = (.int .u64 (L.getD p0 0)) := hd 6 43 rfl (by kernel_rfl) (by decide)
              have h51 : ax.tmps.getD 51 undef = (.int .u64 (L.getD p1 0)) := hd 14 51 rfl (by kernel_rfl) (by decide)
              have h59 : ax.tmps.getD 59 undef = (.int .u64 (L.getD p2 0)) := hd 22 59 rfl (by kernel_rfl) (by decide)
              have h67 : ax.tmps.getD 67 undef = (.int .u64 (L.getD p3 0)) := hd 30 67 rfl (by kernel_rfl) (by decide)
              have hb4 := build4 (L.getD p0 0) (L.getD p1 0) (L.getD p2 0) (L.getD p3 0) wx
              have eq : q.list = [L.getD p0 0, L.getD p1 0, L.getD p2 0, L.getD p3 0] := by rw [HQ.out.2.1]; rfl
              rw [← eq] at hb4
              exact Does.build 141 _ rfl #[(0, .int .u64 (L.getD p0 0)), (1, .int .u64 (L.getD p1 0)), (2, .int .u64 (L.getD p2 0)), (3, .int .u64 (L.getD p3 0))] (by simp only [List.map_toArray, List.map_cons, List.map_nil, Act.eval, h43, h51, h59, h67]) _ hb4
            · intro ax wx hb hs hd
              have h68 : ax.tmps.getD 68 undef = (.agg (q64s q.list).toArray) := hd 31 68 rfl (by kernel_rfl) (by decide)
              refine Does.call 85 #[(.agg (q64s q.list).toArray)] (by go_simp) ?_
              refine (rq_any q HQ.out.2.2.1 HQ.out.2.2.2.1 HQ.out.2.2.2.2.1 HQ.out.2.2.2.2.2 wx).mono ?_
              rintro e w' ⟨rfl, l⟩
              exact ⟨_, rfl, rfl, l⟩
            · intro ax wx hb hs hd
              exact Does.alloc 141 rfl 4 _ zero4q hb.size
          · intro wx hb
            refine @Ends.val _ _ _ _ _ _ _ _ _ (.slice (some ⟨gl, 0, none⟩) 16 cl) rfl ?_
            refine @Ends.val _ _ _ _ _ _ _ _ _ (.slice (some ⟨gp, 0, none⟩) 32 32) rfl ?_
            refine @Ends.val _ _ _ _ _ _ _ _ _ (.int .i64 (KK : Int)) rfl ?_
            refine @Ends.val _ _ _ _ _ _ _ _ _ (.pointer (some ⟨gp, KK, none⟩)) rfl ?_
            refine @Ends.val _ _ _ _ _ _ _ _ _ (.int .i64 (p0 : Int)) rfl ?_
            refine @Ends.val _ _ _ _ _ _ _ _ _ (.pointer (some ⟨gl, p0, none⟩)) rfl ?_
            refine @Ends.val _ _ _ _ _ _ _ _ _ (.int .u64 (L.getD p0 0)) rfl ?_
            refine @Ends.val _ _ _ _ _ _ _ _ _ (.slice (some ⟨gl, 0, none⟩) 16 cl) rfl ?_
            refine @Ends.val _ _ _ _ _ _ _ _ _ (.slice (some ⟨gp, 0, none⟩) 32 32) rfl ?_
            refine @Ends.val _ _ _ _ _ _ _ _ _ (.int .i64 (KK : Int)) rfl ?_
            refine @Ends.val _ _ _ _ _ _ _ _ _ (.int .i64 ((KK : Int) + 1)) rfl ?_
            refine @Ends.val _ _ _ _ _ _ _ _ _ (.pointer (some ⟨gp, KK + 1, none⟩)) rfl ?_
            refine @Ends.val _ _ _ _ _ _ _ _ _ (.int .i64 (p1 : Int)) rfl ?_
            refine @Ends.val _ _ _ _ _ _ _ _ _ (.pointer (some ⟨gl, p1, none⟩)) rfl ?_
            refine @Ends.val _ _ _ _ _ _ _ _ _ (.int .u64 (L.getD p1 0)) rfl ?_
            refine @Ends.val _ _ _ _ _ _ _ _ _ (.slice (some ⟨gl, 0, none⟩) 16 cl) rfl ?_
            refine @Ends.val _ _ _ _ _ _ _ _ _ (.slice (some ⟨gp, 0, none⟩) 32 32) rfl ?_
            refine @Ends.val _ _ _ _ _ _ _ _ _ (.int .i64 (KK : Int)) rfl ?_
            refine @Ends.val _ _ _ _ _ _ _ _ _ (.int .i64 ((KK : Int) + 2)) rfl ?_
            refine @Ends.val _ _ _ _ _ _ _ _ _ (.pointer (some ⟨gp, KK + 2, none⟩)) rfl ?_
            refine @Ends.val _ _ _ _ _ _ _ _ _ (.int .i64 (p2 : Int)) rfl ?_
            refine @Ends.val _ _ _ _ _ _ _ _ _ (.pointer (some ⟨gl, p2, none⟩)) rfl ?_
            refine @Ends.val _ _ _ _ _ _ _ _ _ (.int .u64 (L.getD p2 0)) rfl ?_
            refine @Ends.val _ _ _ _ _ _ _ _ _ (.slice (some ⟨gl, 0, none⟩) 16 cl) rfl ?_
            refine @Ends.val _ _ _ _ _ _ _ _ _ (.slice (some ⟨gp, 0, none⟩) 32 32) rfl ?_
            refine @Ends.val _ _ _ _ _ _ _ _ _ (.int .i64 (KK : Int)) rfl ?_
            refine @Ends.val _ _ _ _ _ _ _ _ _ (.int .i64 ((KK : Int) + 3)) rfl ?_
            refine @Ends.val _ _ _ _ _ _ _ _ _ (.pointer (some ⟨gp, KK + 3, none⟩)) rfl ?_
            refine @Ends.val _ _ _ _ _ _ _ _ _ (.int .i64 (p3 : Int)) rfl ?_
            refine @Ends.val _ _ _ _ _ _ _ _ _ (.pointer (some ⟨gl, p3, none⟩)) rfl ?_
            refine @Ends.val _ _ _ _ _ _ _ _ _ (.int .u64 (L.getD p3 0)) rfl ?_
            refine @Ends.val _ _ _ _ _ _ _ _ _ (.agg (q64s q.list).toArray) rfl ?_
            refine @Ends.val _ _ _ _ _ _ _ _ _ (.agg (q64s (quarter q).list).toArray) rfl ?_
            refine @Ends.blk _ _ _ _ _ _ _ _ _ 141 (q64s [0, 0, 0, 0]) rfl ?_
            intro g33 hg33 bg33
            refine @Ends.one _ _ _ _ _ _ _ ?_
            simp only [Act.put, List.setIfInBounds_toArray, List.set_cons_zero, List.set_cons_succ]
            refine last_store 141 (.tmp 12) (.tmp 69) rfl rfl g33 rfl 141 _ (q64s (quarter q).list) rfl bg33 rfl size4q (u64s_one _) ?_
            intro w8 b8 s8 k8
            have L8 : Below wr.heap.size wr w8 := below_kept hb k8 hb.size (fun j hj => by omega)
            have E8 : Hid (Env w w8 (w.heap.size + 1 + 1) gf cf gp gl cl st L ∧ Blk w8 g33 141 (q64s (quarter q).list) ∧ gl ≠ g33) := ⟨HE.out.1.later L8, b8, by have := HE.out.1.row.lt; omega⟩
            clear hb bg33 hg33 b8 s8 k8 L8
            go_wp2_with fail
            go_loopw [13] (fun i wr => ∃ j : Nat, j ≤ 4 ∧ i = .int .i64 j ∧ Env w wr (w.heap.size + 1 + 1) gf cf gp gl cl st (putN L [p0, p1, p2, p3] (quarter q).list j) ∧ Blk wr g33 141 (q64s (quarter q).list)) (fun i _ => 4 - (intOf i).toNat)
            case atStart => exact ⟨0, Nat.zero_le _, rfl, E8.out.1, E8.out.2.1⟩
            case round =>
              obtain ⟨j, hj, rfl, hE, hB⟩ := hrel
              by_cases hj4 : j < 4
              · have m1 : (j : Int) < 4 := by omega
                have m2 : (0 : Int) ≤ (j : Int) := by omega
                have m3 : (KK : Int) + (j : Int) < 32 := by omega
                have m4 : (0 : Int) ≤ (KK : Int) + (j : Int) := by omega
                have m5 : ((KK : Int) + (j : Int)).toNat = KK + j := by omega
                have hps : ∃ P : Nat, P < 16 ∧ placesL.getD (KK + j) 0 = (P : Int) ∧ ([p0, p1, p2, p3] : List Nat).getD j 0 = P := by
                  rcases (by omega : j = 0 ∨ j = 1 ∨ j = 2 ∨ j = 3) with rfl | rfl | rfl | rfl
                  · exact ⟨p0, q0, HPL.out.1, rfl⟩
                  · exact ⟨p1, q1, HPL.out.2.1, rfl⟩
                  · exact ⟨p2, q2, HPL.out.2.2.1, rfl⟩
                  · exact ⟨p3, q3, HPL.out.2.2.2, rfl⟩
                obtain ⟨P, hP16, hPp, hPl⟩ := hps
                have cp : wr.cell? ⟨gp, KK + j, none⟩ = some (.int .i64 (P : Int)) := by rw [hE.pls.cell (KK + j) (show KK + j < 32 by omega), hPp]
                have cq := u64s_cell hB j (show j < 4 from hj4)
                obtain ⟨Z, hZ⟩ : ∃ Z, (quarter q).list.getD j 0 = Z := ⟨_, rfl⟩
                have hlen : (putN L [p0, p1, p2, p3] (quarter q).list j).length = 16 := by rw [putN_length]; exact HE.out.2.1
                have cl1 := hE.row.cell P (by rw [hlen]; exact hP16)
                have fl1 := hE.row.frozen P
                have HNX : Hid (Env w (wr.setCell ⟨gl, P, none⟩ (.int .u64 Z)).drew (w.heap.size + 1 + 1) gf cf gp gl cl st (putN L [p0, p1, p2, p3] (quarter q).list (j + 1)) ∧ Blk (wr.setCell ⟨gl, P, none⟩ (.int .u64 Z)).drew g33 141 (q64s (quarter q).list)) := by
                  refine ⟨?_, (hB.other (p := ⟨gl, P, none⟩) (fun e => E8.out.2.2 e.symm) _).drew⟩
                  rw [putN_succ, hPl, hZ]
                  exact hE.set hap P (by rw [hlen]; exact hP16) Z
                rw [hZ] at cq
                obtain ⟨B0, hB0⟩ : ∃ B, (putN L [p0, p1, p2, p3] (quarter q).list j).getD P 0 = B := ⟨_, rfl⟩
                rw [hB0] at cl1
                have n1 : (P : Int) < 16 := by omega
                have n2 : (0 : Int) ≤ (P : Int) := by omega
                have vv : IntKind.i64.wrap ((KK : Int) + (j : Int)) = (KK : Int) + (j : Int) := by rw [IntKind.wrap_i64]; omega
                clear hE hB hZ hB0 hPp hPl hlen
                go_wp2_with fail
                go_region
                all_goals
                  go_wp2_with fail
                  exact ⟨⟨j + 1, by omega, by go_num, HNX.out.1, HNX.out.2⟩, by simp [intOf]; omega⟩
              · obtain rfl : j = 4 := by omega
                have HF : Hid (Env w wr (w.heap.size + 1 + 1) gf cf gp gl cl st (passT S (T + 1))) := by
                  rw [putN_4] at hE
                  rw [HN.out]; exact hE
                clear hE hB
                rw [show ((4 : Nat) : Int) = 4 from rfl]
                go_wp2_with fail
                exact ⟨⟨T + 1, KK + 4, by omega, by have := HKK.out; omega, by go_num, HF.out⟩, by simp [intOf]; omega⟩
        · have hT8 : T = 8 := by omega
          subst hT8
          have hKK2 : KK = 32 := by omega
          subst hKK2
          have HF : Hid (Env w wr (w.heap.size + 1 + 1) gf cf gp gl cl st (passN st (N + 1))) := by
            rw [passT_8, ← HSS.out.1] at hE
            exact hE
          clear hE hKK
          rw [show ((32 : Nat) : Int) = 32 from rfl]
          go_wp2_with fail
          exact ⟨⟨N + 1, by omega, by go_num, HF.out⟩, by simp [intOf]; omega⟩
    · obtain rfl : N = 10 := by omega
      obtain ⟨L, HL⟩ : ∃ L, Hid (passN st 10 = L ∧ L.length = 16 ∧ Wds L) := ⟨_, ⟨rfl, by rw [passN_length]; exact HY.out.2.2.2.1, passN_wd HY.out.2.2.2.2.1 10⟩⟩
      rw [HL.out.1] at EN
      have HY2 : Hid (wB (addW L st) 16 = Y ∧ (addW L st).length = 16 ∧ ∀ i, i < 16 → (addW L st).getD i 0 = (L.getD i 0 + st.getD i 0) % 4294967296) := ⟨by rw [← HL.out.1]; exact HY.out.2.2.1, addW_length _ _ 16 HL.out.2.1 HY.out.2.2.2.1, fun i hi => addW_at _ _ 16 i HL.out.2.1 HY.out.2.2.2.1 hi⟩
      rw [show ((10 : Nat) : Int) = 10 from rfl]
      go_wp2_with (first | (refine wpList_alloc_new rfl 103 rfl 64 _ zero64b ?_; intro w7 b7 s7 l7))
      obtain ⟨G, HG⟩ : ∃ G, Hid (wr.heap.size = G) := ⟨_, rfl⟩
      have HGP : Hid (gp < G) := by rw [← HG.out]; exact EN.out.pls.lt
      have E7 : Hid (Env w w7 (w.heap.size + 1 + 1) gf cf gp gl cl st L ∧ Blk w7 G 103 (u8s (zs0 64)) ∧ gf < G ∧ gl < G ∧ w.heap.size + 1 + 1 < G) := by
        rw [← HG.out]
        exact ⟨EN.out.later l7, b7, EN.out.fst.lt, EN.out.row.lt, EN.out.res.lt⟩
      rw [HG.out]
      clear b7 s7 l7 EN
      go_loopw [15] (fun i wr => ∃ I : Nat, I ≤ 16 ∧ i = .int .i64 I ∧ Env w wr (w.heap.size + 1 + 1) gf cf gp gl cl st L ∧ Blk wr G 103 (u8s (Y.take (4 * I) ++ zs0 (64 - 4 * I)))) (fun i _ => 16 - (intOf i).toNat)
      case atStart => exact ⟨0, Nat.zero_le _, rfl, E7.out.1, E7.out.2.1⟩
      case round =>
        obtain ⟨I, hI, rfl, hE, hB⟩ := hrel
        by_cases hI16 : I < 16
        · have i1 : (I : Int) < 16 := by omega
          have i2 : (0 : Int) ≤ (I : Int) := by omega
          have HE : Hid (Env w wr (w.heap.size + 1 + 1) gf cf gp gl cl st L ∧ Blk wr G 103 (u8s (Y.take (4 * I) ++ zs0 (64 - 4 * I)))) := ⟨hE, hB⟩
          have wa := HL.out.2.2.at I (by rw [HL.out.2.1]; exact hI16)
          have wb := HY.out.2.2.2.2.1.at I (by rw [HY.out.2.2.2.1]; exact hI16)
          have HC : Hid (∀ W, Below wr.heap.size wr W → W.cell? ⟨gl, I, none⟩ = some (.int .u64 (L.getD I 0)) ∧ W.cell? ⟨gf, I, none⟩ = some (.int .u64 (st.getD I 0))) := fun W hW => ⟨(HE.out.1.later hW).row.cell I (by rw [HL.out.2.1]; exact hI16), (HE.out.1.later hW).fst.cell I (by rw [HY.out.2.2.2.1]; exact hI16)⟩
          have HX : Hid (∀ j, j < 4 → Y.getD (4 * I + j) 0 = (leB 4 ((L.getD I 0 + st.getD I 0) % 4294967296)).getD j 0) := fun j hj => by
            have h1 := wB_succ (addW L st) I (by rw [HY2.out.2.1]; exact hI16)
            rw [HY2.out.2.2 I hI16] at h1
            have h2 : wB (addW L st) (I + 1) = Y.take (4 * (I + 1)) := by
              rw [← HY2.out.1]
              exact wB_take (addW L st) (I + 1) 16 (by omega) (by rw [HY2.out.2.1]; exact Nat.le_refl _)
            have h3 : (wB (addW L st) I).length = 4 * I := wB_length _ _ (by rw [HY2.out.2.1]; omega)
            have h4 : (Y.take (4 * (I + 1))).getD (4 * I + j) 0 = Y.getD (4 * I + j) 0 := by simp [List.getD, List.getElem?_take, show 4 * I + j < 4 * (I + 1) by omega]
            rw [← h4, ← h2, h1, ← h3]
            exact app_getD _ _ _ _ rfl
          obtain ⟨A, hA⟩ : ∃ A, L.getD I 0 = A := ⟨_, rfl⟩
          obtain ⟨B, hB'⟩ : ∃ B, st.getD I 0 = B := ⟨_, rfl⟩
          rw [hA, hB'] at HC HX
          rw [hA] at wa
          rw [hB'] at wb
          obtain ⟨Z, hZ⟩ : ∃ Z, (A + B) % 4294967296 = Z := ⟨_, rfl⟩
          have HZ : Hid ((A + B) % 4294967296 = Z ∧ Word Z) := ⟨hZ, by rw [← hZ]; exact ⟨by omega, by omega⟩⟩
          rw [hZ] at HX
          clear hE hB hA hB' hZ
          go_wp2_with fail
          try simp only [Act.put, List.setIfInBounds_toArray, List.set_cons_zero, List.set_cons_succ]
          refine region_inv [.val (.slice (some ⟨gl, 0, none⟩) 16 cl), .val (.int .i64 (I : Int)), .val (.pointer (some ⟨gl, I, none⟩)), .val (.int .u64 A), .val (.slice (some ⟨gf, 0, none⟩) 16 cf), .val (.int .i64 (I : Int)), .val (.pointer (some ⟨gf, I, none⟩)), .val (.int .u64 B), .val (.int .u64 Z), .any (isF wr.heap.size (leB 4 Z)) (isF_later _ _)] (by kernel_rfl) (by kernel_rfl) (by kernel_rfl) ?_ ?_
          · refine Steps'.cons ?_ (Steps'.cons ?_ (Steps'.cons ?_ (Steps'.cons ?_ (Steps'.cons ?_ (Steps'.cons ?_ (Steps'.cons ?_ (Steps'.cons ?_ (Steps'.cons ?_ (Steps'.cons ?_ (Steps'.one _ _ _ _ _ _ _))))))))))
            · intro ax wx hb hs hd
              have h8 : ax.tmps.getD 8 undef = (.slice (some ⟨gl, 0, none⟩) 16 cl) := hs 8 (by kernel_rfl)
              refine Does.value (.slice (some ⟨gl, 0, none⟩) 16 cl) ?_ rfl
              go_simp
            · intro ax wx hb hs hd
              have h15 : ax.tmps.getD 15 undef = (.int .i64 (I : Int)) := hs 15 (by kernel_rfl)
              refine Does.value (.int .i64 (I : Int)) ?_ rfl
              go_simp
            · intro ax wx hb hs hd
              have h89 : ax.tmps.getD 89 undef = (.slice (some ⟨gl, 0, none⟩) 16 cl) := hd 0 89 rfl (by kernel_rfl) (by decide)
              have h90 : ax.tmps.getD 90 undef = (.int .i64 (I : Int)) := hd 1 90 rfl (by kernel_rfl) (by decide)
              refine Does.value (.pointer (some ⟨gl, I, none⟩)) ?_ rfl
              go_simp
            · intro ax wx hb hs hd
              have h91 : ax.tmps.getD 91 undef = (.pointer (some ⟨gl, I, none⟩)) := hd 2 91 rfl (by kernel_rfl) (by decide)
              have cx := (HC.out wx hb).1
              refine Does.value (.int .u64 A) ?_ rfl
              go_simp
            · intro ax wx hb hs hd
              have h7 : ax.tmps.getD 7 undef = (.slice (some ⟨gf, 0, none⟩) 16 cf) := hs 7 (by kernel_rfl)
              refine Does.value (.slice (some ⟨gf, 0, none⟩) 16 cf) ?_ rfl
              go_simp
            · intro ax wx hb hs hd
              have h15 : ax.tmps.getD 15 undef = (.int .i64 (I : Int)) := hs 15 (by kernel_rfl)
              refine Does.value (.int .i64 (I : Int)) ?_ rfl
              go_simp
            · intro ax wx hb hs hd
              have h93 : ax.tmps.getD 93 undef = (.slice (some ⟨gf, 0, none⟩) 16 cf) := hd 4 93 rfl (by kernel_rfl) (by decide)
              have h94 : ax.tmps.getD 94 undef = (.int .i64 (I : Int)) := hd 5 94 rfl (by kernel_rfl) (by decide)
              refine Does.value (.pointer (some ⟨gf, I, none⟩)) ?_ rfl
              go_simp
            · intro ax wx hb hs hd
              have h95 : ax.tmps.getD 95 undef = (.pointer (some ⟨gf, I, none⟩)) := hd 6 95 rfl (by kernel_rfl) (by decide)
              have cx := (HC.out wx hb).2
              refine Does.value (.int .u64 B) ?_ rfl
              go_simp
            · intro ax wx hb hs hd
              have h92 : ax.tmps.getD 92 undef = (.int .u64 A) := hd 3 92 rfl (by kernel_rfl) (by decide)
              have h96 : ax.tmps.getD 96 undef = (.int .u64 B) := hd 7 96 rfl (by kernel_rfl) (by decide)
              refine Does.call 87 #[(.int .u64 A), (.int .u64 B)] (by go_simp) ?_
              have q := rplus_any A B wa wb wx
              rw [HZ.out.1] at q
              refine q.mono ?_
              rintro e w' ⟨rfl, rfl⟩
              exact ⟨_, rfl, rfl, Below.refl _ _⟩
            · intro ax wx hb hs hd
              have h97 : ax.tmps.getD 97 undef = (.int .u64 Z) := hd 8 97 rfl (by kernel_rfl) (by decide)
              refine Does.call 86 #[(.int .u64 Z), (.int .i64 4)] (by go_simp) ?_
              refine (rbytes_any Z HZ.out.2 4 (by decide) wx).mono ?_
              rintro e w' ⟨v, rfl, o, l⟩
              obtain ⟨vo, cap, rfl, hs, hc, _, h4, _⟩ := own_data (leB_bytes 4 Z) (by rw [leB_length]; decide) (by simpa [leB_length] using o)
              exact ⟨_, rfl, ⟨_, _, _, rfl, hs, fun b o e => Nat.le_trans hb.size (h4 b o e).1⟩, l⟩
          · intro wx hb
            refine @Ends.val _ _ _ _ _ _ _ _ _ (.slice (some ⟨gl, 0, none⟩) 16 cl) rfl ?_
            refine @Ends.val _ _ _ _ _ _ _ _ _ (.int .i64 (I : Int)) rfl ?_
            refine @Ends.val _ _ _ _ _ _ _ _ _ (.pointer (some ⟨gl, I, none⟩)) rfl ?_
            refine @Ends.val _ _ _ _ _ _ _ _ _ (.int .u64 A) rfl ?_
            refine @Ends.val _ _ _ _ _ _ _ _ _ (.slice (some ⟨gf, 0, none⟩) 16 cf) rfl ?_
            refine @Ends.val _ _ _ _ _ _ _ _ _ (.int .i64 (I : Int)) rfl ?_
            refine @Ends.val _ _ _ _ _ _ _ _ _ (.pointer (some ⟨gf, I, none⟩)) rfl ?_
            refine @Ends.val _ _ _ _ _ _ _ _ _ (.int .u64 B) rfl ?_
            refine @Ends.val _ _ _ _ _ _ _ _ _ (.int .u64 Z) rfl ?_
            refine @Ends.any _ _ _ _ _ _ _ _ _ (isF wr.heap.size (leB 4 Z)) (isF_later _ _) rfl ?_
            intro v9 p9
            refine @Ends.one _ _ _ _ _ _ _ ?_
            simp only [Act.put, List.setIfInBounds_toArray, List.set_cons_zero, List.set_cons_succ]
            obtain ⟨vo, n9, c9, rfl, s9, h9⟩ := p9
            obtain rfl : 4 = n9 := by rw [← s9.len, leB_length]
            refine last_assign (.tmp 98) rfl (some 16) rfl (.slice vo 4 c9) rfl ?_
            simp only [Act.put, List.setIfInBounds_toArray, List.set_cons_zero, List.set_cons_succ]
            have E9 : Hid (Env w wx (w.heap.size + 1 + 1) gf cf gp gl cl st L ∧ Blk wx G 103 (u8s (Y.take (4 * I) ++ zs0 (64 - 4 * I))) ∧ Seen wx vo 4 (leB 4 Z) ∧ (∀ b o, vo = some ⟨b, o, none⟩ → b ≠ G)) := ⟨HE.out.1.later hb, HE.out.2.later hb HE.out.2.lt, s9, fun b o e => by have := h9 b o e; have := HE.out.2.lt; omega⟩
            clear hb s9 h9
            go_wp2_with fail
            go_loopw [17] (fun i wr => ∃ j : Nat, j ≤ 4 ∧ i = .int .i64 j ∧ Blk wr G 103 (u8s (Y.take (4 * I + j) ++ zs0 (64 - (4 * I + j)))) ∧ Kept (fun x => x = G) wx wr) (fun i _ => 4 - (intOf i).toNat)
            case atStart => exact ⟨0, Nat.zero_le _, rfl, E9.out.2.1, Kept.refl _ _⟩
            case round =>
              obtain ⟨j, hj, rfl, hB, hkp⟩ := hrel
              by_cases hj4 : j < 4
              · obtain ⟨b, o, rfl, hb, hc⟩ := E9.out.2.2.1.cells (by decide)
                have hbG := E9.out.2.2.2 b o rfl
                have c1 := (hkp.cell (p := ⟨b, o + j, none⟩) hb hbG).trans (hc j hj4)
                have hlen : (Y.take (4 * I + j) ++ zs0 (64 - (4 * I + j)) : List Int).length = 64 := by rw [List.length_append, List.length_take, HY.out.1, zs0_length]; omega
                have cg := u8s_cell hB (4 * I + j) (by rw [hlen]; omega)
                have fg := hB.frozen (4 * I + j)
                have hset : (Y.take (4 * I + j) ++ zs0 (64 - (4 * I + j)) : List Int).set (4 * I + j) ((leB 4 Z).getD j 0) = Y.take (4 * I + (j + 1)) ++ zs0 (64 - (4 * I + (j + 1))) := by
                  have h := take_next Y (4 * I + j) (by rw [HY.out.1]; omega) (64 - (4 * I + (j + 1)))
                  rw [show 64 - (4 * I + (j + 1)) + 1 = 64 - (4 * I + j) by omega, HX.out j hj4] at h
                  exact h
                obtain ⟨D, hD⟩ : ∃ D, (leB 4 Z).getD j 0 = D := ⟨_, rfl⟩
                obtain ⟨D0, hD0⟩ : ∃ D, (Y.take (4 * I + j) ++ zs0 (64 - (4 * I + j)) : List Int).getD (4 * I + j) 0 = D := ⟨_, rfl⟩
                rw [hD] at c1 hset
                rw [hD0] at cg
                have HQ : Hid (Blk (wr.setCell ⟨G, 4 * I + j, none⟩ (.int .u8 D)) G 103 (u8s (Y.take (4 * I + (j + 1)) ++ zs0 (64 - (4 * I + (j + 1))))) ∧ Kept (fun x => x = G) wx (wr.setCell ⟨G, 4 * I + j, none⟩ (.int .u8 D))) := by
                  have R := hB.set (4 * I + j) (.int .u8 D)
                  rw [u8s_set, hset] at R
                  exact ⟨R, hkp.setCell rfl _⟩
                have m1 : (j : Int) < 4 := by omega
                have m2 : (0 : Int) ≤ (j : Int) := by omega
                have m3 : 4 * (I : Int) + (j : Int) < 64 := by omega
                have m4 : (0 : Int) ≤ 4 * (I : Int) + (j : Int) := by omega
                have m5 : (4 * (I : Int) + (j : Int)).toNat = 4 * I + j := by omega
                clear hc hD hD0 hset hB hkp hlen
                go_wp2_with fail
                exact ⟨⟨j + 1, by omega, by go_num, HQ.out.1, HQ.out.2⟩, by simp [intOf]; omega⟩
              · obtain rfl : j = 4 := by omega
                have HF : Hid (Env w wr (w.heap.size + 1 + 1) gf cf gp gl cl st L ∧ Blk wr G 103 (u8s (Y.take (4 * (I + 1)) ++ zs0 (64 - 4 * (I + 1))))) := by
                  have e := E9.out.1
                  have hh := E7.out.2.2
                  exact ⟨⟨below_kept e.bel hkp e.bel.size (fun i hi => by omega), e.res.kept hkp (by omega), e.fst.block (hkp.block gf e.fst.lt (by omega)), e.pls.block (hkp.block gp e.pls.lt (by have := HGP.out; omega)), e.row.block (hkp.block gl e.row.lt (by omega)), e.new⟩, hB⟩
                clear hB hkp
                rw [show ((4 : Nat) : Int) = 4 from rfl]
                go_wp2_with fail
                exact ⟨⟨I + 1, by omega, by go_num, HF.out.1, HF.out.2⟩, by simp [intOf]; omega⟩
        · obtain rfl : I = 16 := by omega
          have e1 : Y.take (4 * 16) ++ zs0 (64 - 4 * 16) = Y := by rw [List.take_of_length_le (by rw [HY.out.1]; exact Nat.le_refl _)]; simp [zs0]
          rw [e1] at hB
          have HQ : Hid (Blk wr G 103 (u8s Y) ∧ Blk wr (w.heap.size + 1 + 1) 103 (u8s (zs0 64)) ∧ Below w.heap.size w wr ∧ (Try.prog.info? 103).map (·.size) = some (u8s Y).length) := ⟨hB, hE.res, hE.bel, by rw [u8s_length, HY.out.1]; kernel_rfl⟩
          clear hB hE e1
          rw [show ((16 : Nat) : Int) = 16 from rfl]
          go_wp2_with (first | (refine wpList_load_blk rfl 103 _ rfl _ rfl (u8s Y) _ HQ.out.1 Try.underlying103 rfl HQ.out.2.2.2 ?_) | (refine wpList_store_blk rfl 103 103 _ _ rfl _ rfl _ (u8s Y) rfl HQ.out.2.1 (by rw [u8s_length, u8s_length, HY.out.1]; rfl) HQ.out.2.2.2 (u8s_one _) ?_; intro w9 b9 s9 k9))
          exact ret_blk rfl (w.heap.size + 1 + 1) (u8s Y) _ rfl b9 Try.underlying103 rfl HQ.out.2.2.2 rfl ⟨rfl, below_kept HQ.out.2.2.1 k9 HQ.out.2.2.1.size (fun j hj => by omega)⟩
end Go.Proofs.Ytcimiajkbgabiaa

namespace Go.Proofs.Ytcimiajkbgabiaa
open Go.RowKit
set_option linter.unusedVariables false
set_option linter.unusedSimpArgs false

theorem sizeStrm : (Try.prog.info? 150).map (·.size) = some 45 := by kernel_rfl
def zeroS : List Value := u8s (List.replicate 44 0) ++ [.int .u64 0]
theorem zeroStrm : (Try.prog.info? 150).map (fun i => (i.zero, i.size)) = some (some (.agg zeroS.toArray), 45) := by kernel_rfl
def sCells (key nonce : List Int) (P : Int) : List Value := u8s key ++ (u8s nonce ++ [Value.int .u64 P])
theorem sCells_length (key nonce : List Int) (P : Int) (hk : key.length = 32) (hn : nonce.length = 12) : (sCells key nonce P).length = 45 := by simp [sCells, u8s, hk, hn]
theorem sCells_one (key nonce : List Int) (P : Int) : ∀ v ∈ sCells key nonce P, v.oneCell' = true := by
  intro v hv
  simp only [sCells, List.mem_append, List.mem_singleton] at hv
  rcases hv with h | h | rfl
  · exact u8s_one _ v h
  · exact u8s_one _ v h
  · rfl
/-- A stream in block g: its key, its nonce, its place. -/
structure StAt (w : World) (g : Nat) (key nonce : List Int) (P : Nat) : Prop where
  blk : Blk w g 150 (sCells key nonce P)
  k32 : key.length = 32
  n12 : nonce.length = 12
  kb : Bytes key
  nb : Bytes nonce
  top : P ≤ 274877906944
theorem wpList_yield {ops : Array Oper} {rest : List Oper} {o : Oper} {a : Act} {Q : Exit → Act → World → Prop} {w : World} (hgd : o.guard = none) (v : Value) (hrun : (execOp a.eval o).run Try.prog w = .ok (.value v) w) (h : wpList Try.prog ops Q rest (a.put o.dst v) w) : wpList Try.prog ops Q (o :: rest) a w := by
  refine wpList_plain hgd fun K hK => ?_
  unfold Oper.wp
  rw [hrun]
  exact hK _ _ h
theorem list_range (l : List Int) (n : Nat) (h : l.length = n) : l = (List.range n).map (fun i => l.getD i 0) := by
  subst h
  apply List.ext_getElem
  · simp
  · intro i h1 h2; simp [List.getD, h1]
theorem build_s0 (f g : Nat → Int) (P : Int) (w : World) : (Instr.build 150 #[(0, .agg (u8s ((List.range 32).map f)).toArray), (1, .agg (u8s ((List.range 12).map g)).toArray), (2, .int .u64 P)]).run Try.prog w = .ok (.agg (sCells ((List.range 32).map f) ((List.range 12).map g) P).toArray) w := by kernel_rfl
theorem build_s (key nonce : List Int) (hk : key.length = 32) (hn : nonce.length = 12) (P : Int) (w : World) : (Instr.build 150 #[(0, .agg (u8s key).toArray), (1, .agg (u8s nonce).toArray), (2, .int .u64 P)]).run Try.prog w = .ok (.agg (sCells key nonce P).toArray) w := by
  rw [list_range key 32 hk, list_range nonce 12 hn]
  exact build_s0 _ _ P w
set_option maxRecDepth 20000 in
set_option maxHeartbeats 1000000 in
theorem new_any (key : List Int) (ctr : Nat) (nonce : List Int) (hk : key.length = 32) (hn : nonce.length = 12) (hkb : Bytes key) (hnb : Bytes nonce) (hc : ctr < 4294967296) (w : World) :
    Calls Try.prog 72 #[.agg (u8s key).toArray, .agg (u8s nonce).toArray, .int .u32 ctr] w fun e w' => ∃ g, e = .returned (.pointer (some ⟨g, 0, none⟩)) ∧ w.heap.size ≤ g ∧ StAt w' g key nonce (64 * ctr) ∧ Below w.heap.size w w' := by
  have HS : Hid (key.length = 32 ∧ nonce.length = 12 ∧ Bytes key ∧ Bytes nonce) := ⟨hk, hn, hkb, hnb⟩
  clear hk hn hkb hnb
  have v1 : IntKind.u64.wrap (ctr : Int) = (ctr : Int) := by simp only [IntKind.wrap, IntKind.bits, IntKind.signed]; simp; omega
  have v2 : IntKind.u64.wrap (64 * (ctr : Int)) = 64 * (ctr : Int) := by simp only [IntKind.wrap, IntKind.bits, IntKind.signed]; simp; omega
  go_enter Try.func72, Try.ntmps72
  go_wp2_with (first | ((with_reducible show wpList _ _ _ ({ dst := some 12, op := _, type := _, pos := _, after := _, guard := _ } :: _) _ _); refine Hid.out ?_) | (refine wpList_box_new rfl 27 _ rfl (u8s key) rfl ?_; intro w1 b1 s1 l1) | (refine wpList_box_new rfl 42 _ rfl (u8s nonce) rfl ?_; intro w2 b2 s2 l2) | (refine wpList_load_blk rfl 27 _ rfl _ rfl (u8s key) _ (by first | exact b1.later l2 (by omega)) Try.underlying27 rfl (by rw [u8s_length, HS.out.1]; exact sizeKey) ?_) | (refine wpList_load_blk rfl 42 _ rfl _ rfl (u8s nonce) _ (by first | exact b2 | (rw [← s1]; exact b2)) Try.underlying42 rfl (by rw [u8s_length, HS.out.2.1]; exact sizeNonce) ?_) | ((with_reducible show wpList _ _ _ ({ dst := some 9, op := _, type := _, pos := _, after := _, guard := _ } :: _) _ _); refine wpList_yield rfl (.int .u32 (ctr : Int)) rfl ?_) | ((with_reducible show wpList _ _ _ ({ dst := some 10, op := _, type := _, pos := _, after := _, guard := _ } :: _) _ _); refine wpList_yield rfl (.int .u64 (ctr : Int)) (by go_simp) ?_) | ((with_reducible show wpList _ _ _ ({ dst := some 11, op := _, type := _, pos := _, after := _, guard := _ } :: _) _ _); refine wpList_yield rfl (.int .u64 (64 * (ctr : Int))) (by go_simp) ?_) | (refine wpList_build rfl 150 _ rfl #[(0, .agg (u8s key).toArray), (1, .agg (u8s nonce).toArray), (2, .int .u64 (64 * (ctr : Int)))] rfl _ (build_s key nonce HS.out.1 HS.out.2.1 _ _) ?_) | (refine wpList_box_new rfl 150 _ rfl (sCells key nonce (64 * (ctr : Int))) rfl ?_; intro w3 b3 s3 l3) | (refine wpList_alloc_new rfl 150 rfl 45 _ zeroStrm ?_; intro w4 b4 s4 l4) | (refine wpList_store_blk rfl 150 150 _ _ rfl _ rfl _ (sCells key nonce (64 * (ctr : Int))) rfl b4 (by rw [sCells_length _ _ _ HS.out.1 HS.out.2.1]; rfl) (by rw [sCells_length _ _ _ HS.out.1 HS.out.2.1]; exact sizeStrm) (sCells_one _ _ _) ?_; intro w5 b5 s5 k5))
  change wpList _ _ _ _ _ _
  refine wpList_build rfl 150 _ rfl #[(0, .agg (u8s key).toArray), (1, .agg (u8s nonce).toArray), (2, .int .u64 (64 * (ctr : Int)))] (by simp [Act.eval]) _ (build_s key nonce HS.out.1 HS.out.2.1 _ _) ?_
  go_wp2_with (first | (refine wpList_box_new rfl 150 _ rfl (sCells key nonce (64 * (ctr : Int))) rfl ?_; intro w3 b3 s3 l3))
  go_ret
  refine ⟨w2.heap.size, by simp [s1, s2], by omega, ⟨by simpa using b3, HS.out.1, HS.out.2.1, HS.out.2.2.1, HS.out.2.2.2, by omega⟩, below_chain (below_chain l1 l2 (by omega)) l3 (by omega)⟩
theorem StAt.place {w : World} {g : Nat} {key nonce : List Int} {P : Nat} (h : StAt w g key nonce P) : w.cell? ⟨g, 44, none⟩ = some (.int .u64 P) := by
  rw [h.blk.cell, sCells, List.getElem?_append_right (by rw [u8s_length, h.k32]; decide), u8s_length, h.k32, List.getElem?_append_right (by rw [u8s_length, h.n12]; decide), u8s_length, h.n12]; rfl
theorem StAt.frozen {w : World} {g : Nat} {key nonce : List Int} {P : Nat} (h : StAt w g key nonce P) (j : Nat) : w.frozen? ⟨g, j, none⟩ = false := h.blk.frozen j
theorem StAt.lt {w : World} {g : Nat} {key nonce : List Int} {P : Nat} (h : StAt w g key nonce P) : g < w.heap.size := h.blk.lt
theorem StAt.later {w w' : World} {g : Nat} {key nonce : List Int} {P : Nat} (h : StAt w g key nonce P) {B : Nat} (hb : Below B w w') (hB : g < B) : StAt w' g key nonce P := ⟨h.blk.later hb hB, h.k32, h.n12, h.kb, h.nb, h.top⟩
theorem StAt.kept {S : Nat → Prop} {w w' : World} {g : Nat} {key nonce : List Int} {P : Nat} (h : StAt w g key nonce P) (hk : Kept S w w') (hS : ¬ S g) : StAt w' g key nonce P := ⟨h.blk.kept hk hS, h.k32, h.n12, h.kb, h.nb, h.top⟩
theorem StAt.drew {w : World} {g : Nat} {key nonce : List Int} {P : Nat} (h : StAt w g key nonce P) : StAt w.drew g key nonce P := ⟨h.blk.drew, h.k32, h.n12, h.kb, h.nb, h.top⟩
theorem StAt.drewN {w : World} {g : Nat} {key nonce : List Int} {P : Nat} (h : StAt w g key nonce P) (n : Nat) : StAt (w.drewN n) g key nonce P := ⟨h.blk.drewN n, h.k32, h.n12, h.kb, h.nb, h.top⟩
theorem StAt.move {w : World} {g : Nat} {key nonce : List Int} {P : Nat} (h : StAt w g key nonce P) (P' : Nat) (ht : P' ≤ 274877906944) : StAt (w.setCell ⟨g, 44, none⟩ (.int .u64 P')) g key nonce P' := by
  refine ⟨?_, h.k32, h.n12, h.kb, h.nb, ht⟩
  have h1 := h.blk.set 44 (.int .u64 P')
  have e : (sCells key nonce P).set 44 (.int .u64 P') = sCells key nonce P' := by
    rw [sCells, List.set_append_right _ _ (by rw [u8s_length, h.k32]; decide), u8s_length, h.k32, List.set_append_right _ _ (by rw [u8s_length, h.n12]; decide), u8s_length, h.n12]; rfl
  rwa [e] at h1
theorem StAt.key {w : World} {g : Nat} {key nonce : List Int} {P : Nat} (h : StAt w g key nonce P) : w.rangeAt g 0 (u8s key) := by
  have := Blk.range (xs := []) (ys := u8s key) (zs := u8s nonce ++ [Value.int .u64 P]) h.blk
  simpa using this
theorem StAt.nonce {w : World} {g : Nat} {key nonce : List Int} {P : Nat} (h : StAt w g key nonce P) : w.rangeAt g 32 (u8s nonce) := by
  have := Blk.range (xs := u8s key) (ys := u8s nonce) (zs := [Value.int .u64 P]) h.blk
  rwa [u8s_length, h.k32] at this
/-- What check says. -/
def chk (n : Int) (P : Nat) : Int := if n < 0 then 2 else if 274877906944 < n + P then 50 else 0
set_option maxRecDepth 20000 in
theorem check_any (g : Nat) (key nonce : List Int) (P : Nat) (n : Int) (hn : -9223372036854775808 ≤ n ∧ n < 9223372036854775808) (w : World) (h : StAt w g key nonce P) :
    Calls Try.prog 94 #[.pointer (some ⟨g, 0, none⟩), .int .i64 n] w fun e w' => e = .returned (.int .i64 (chk n P)) ∧ w = w' := by
  have c1 := h.place
  have ht := h.top
  clear h
  unfold chk
  by_cases h0 : n < 0
  · rw [if_pos h0]
    go_enter Try.func94, Try.ntmps94
    go_wp2
    go_ret
    exact ⟨rfl, rfl⟩
  · rw [if_neg h0]
    have v1 : IntKind.u64.wrap n = n := by simp only [IntKind.wrap, IntKind.bits, IntKind.signed]; simp; omega
    have v2 : IntKind.u64.wrap (274877906944 - (P : Int)) = 274877906944 - (P : Int) := by simp only [IntKind.wrap, IntKind.bits, IntKind.signed]; simp; omega
    by_cases h1 : 274877906944 < n + P
    · rw [if_pos h1]
      have i1 : 274877906944 - (P : Int) < n := by omega
      go_enter Try.func94, Try.ntmps94
      go_wp2
      go_ret
      exact ⟨rfl, rfl⟩
    · rw [if_neg h1]
      have i1 : ¬ 274877906944 - (P : Int) < n := by omega
      go_enter Try.func94, Try.ntmps94
      go_wp2
      go_ret
      exact ⟨rfl, rfl⟩
set_option maxRecDepth 20000 in
theorem check_nil (n : Int) (w : World) : Calls Try.prog 94 #[.pointer none, .int .i64 n] w fun e w' => e = .returned (.int .i64 1) ∧ w = w' := by
  go_enter Try.func94, Try.ntmps94
  go_wp2
  go_ret
  exact ⟨rfl, rfl⟩
end Go.Proofs.Ytcimiajkbgabiaa
