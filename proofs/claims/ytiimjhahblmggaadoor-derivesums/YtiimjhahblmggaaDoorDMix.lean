/- Layer digest: mix. -/
import Derived.Test.YtiimjhahblmggaaDoorDSpread
namespace Go.Proofs.YtiimjhahblmggaaDoor
open Go.RowKit
set_option linter.unusedVariables false
set_option linter.unusedSimpArgs false

theorem zero8w : (Tryd.prog.info? 79).map (fun i => (i.zero, i.size)) = some (some (.agg (u32s (List.replicate 8 0)).toArray), 8) := by kernel_rfl
theorem size8w : (Tryd.prog.info? 79).map (·.size) = some 8 := by kernel_rfl
theorem size64b : (Tryd.prog.info? 82).map (·.size) = some 64 := by kernel_rfl
def KTab (w : World) : Prop := ∀ i, i < 64 → w.cell? ⟨0, i, none⟩ = some (.int .u32 (kWords.getD i 0))
theorem KTab.lt {w : World} (h : KTab w) : 0 < w.heap.size := World.block_lt_of_cell? w _ (h 0 (by decide))
theorem KTab.below {w w' : World} {B : Nat} (h : KTab w) (hb : Below B w w') (hB : 0 < B) : KTab w' := fun i hi => (hb.cell (p := ⟨0, i, none⟩) hB).trans (h i hi)
theorem KTab.kept {S : Nat → Prop} {w w' : World} (h : KTab w) (hk : Kept S w w') (hS : ¬ S 0) : KTab w' := fun i hi => (hk.cell (p := ⟨0, i, none⟩) h.lt hS).trans (h i hi)
set_option maxRecDepth 20000 in
theorem index_eight (v : V8) (i : Nat) (hi : i < 8) (w : World) : (Instr.index 79 (.agg #[.int .u32 v.a, .int .u32 v.b, .int .u32 v.c, .int .u32 v.d, .int .u32 v.e, .int .u32 v.f, .int .u32 v.g, .int .u32 v.h]) (.int .i64 i)).run Tryd.prog w = .ok (.int .u32 (v.list.getD i 0)) w := by
  rcases (by omega : i = 0 ∨ i = 1 ∨ i = 2 ∨ i = 3 ∨ i = 4 ∨ i = 5 ∨ i = 6 ∨ i = 7) with rfl | rfl | rfl | rfl | rfl | rfl | rfl | rfl <;> rfl
set_option maxRecDepth 20000 in
set_option maxHeartbeats 1000000 in
theorem mix_any (st zs : List Int) (hs : st.length = 8) (hl : zs.length = 64) (w : World) (hK : KTab w) :
    Calls Tryd.prog 56 #[.agg (u32s st).toArray, .agg (u8s zs).toArray] w fun e w' => e = .returned (.agg (u32s (mixF st zs)).toArray) ∧ Below w.heap.size w w' := by
  have HL : Hid (zs.length = 64) := hl
  have HS : Hid (st.length = 8) := hs
  have HK : Hid (KTab w) := hK
  clear hl hs hK
  go_enter Tryd.func56, Tryd.ntmps56
  go_wp2_with (first | (refine wpList_box_new rfl 79 _ rfl (u32s st) rfl ?_; intro w1 b1 s1 l1) | (refine wpList_box_new rfl 82 _ rfl (u8s zs) rfl ?_; intro w2 b2 s2 l2) | (refine wpList_alloc_new rfl 79 rfl 8 _ zero8w ?_; intro w3 b3 s3 l3) | (refine wpList_load_blk rfl 82 _ rfl _ rfl (u8s zs) _ (by first | exact b2.later l3 (by omega) | (have := b2.later l3 (by omega); rwa [s1] at this)) Tryd.underlying82 rfl (by rw [u8s_length, HL.out]; exact size64b) ?_) | (go_at_call 61; refine (spread_any zs HL.out _).mono ?_; rintro e w4 ⟨rfl, l4⟩) | (refine wpList_alloc_new rfl 91 rfl 64 _ zero64w ?_; intro w5 b5 s5 l5) | (refine wpList_store_blk rfl 91 91 _ _ rfl _ rfl _ (u32s (sched zs)) rfl b5 (by rw [u32s_length, sched_length, u32s_length, List.length_replicate]) (by rw [u32s_length, sched_length]; exact size64w) (u32s_one _) ?_; intro w6 b6 s6 k6))
  have HB : Hid (Blk w6 w.heap.size 79 (u32s st) ∧ Blk w6 (w.heap.size + 2) 79 (u32s (List.replicate 8 0)) ∧ Blk w6 w4.heap.size 91 (u32s (sched zs)) ∧ KTab w6 ∧ Below w.heap.size w w6) := by
    have q4 := l4.size
    have q0 := HK.out.lt
    have e2 : w2.heap.size = w.heap.size + 2 := by omega
    rw [e2] at b3
    have B6 : Below w.heap.size w w6 := below_kept (below_chain (below_chain (below_chain (below_chain l1 l2 (by omega)) l3 (by omega)) l4 (by omega)) l5 (by omega)) k6 (by omega) (fun j hj => by omega)
    exact ⟨(((((b1.later l2 (by omega)).later l3 (by omega)).later l4 (by omega)).later l5 (by omega)).kept k6 (by omega)), (((b3.later l4 (by omega)).later l5 (by omega)).kept k6 (by omega)), b6, HK.out.below B6 q0, B6⟩
  have sz : w.heap.size + 3 ≤ w4.heap.size := by have := l4.size; omega
  clear b1 s1 l1 b2 s2 l2 b3 s3 l3 l4 b5 s5 l5 b6 s6 k6
  have c0 := u32s_cell HB.out.1 0 (by have := HS.out; omega)
  have c1 := u32s_cell HB.out.1 1 (by have := HS.out; omega)
  have c2 := u32s_cell HB.out.1 2 (by have := HS.out; omega)
  have c3 := u32s_cell HB.out.1 3 (by have := HS.out; omega)
  have c4 := u32s_cell HB.out.1 4 (by have := HS.out; omega)
  have c5 := u32s_cell HB.out.1 5 (by have := HS.out; omega)
  have c6 := u32s_cell HB.out.1 6 (by have := HS.out; omega)
  have c7 := u32s_cell HB.out.1 7 (by have := HS.out; omega)
  go_wp2
  go_quiet (fail)
  go_wp2
  go_quiet (fail)
  go_wp2
  clear c0 c1 c2 c3 c4 c5 c6 c7
  go_loopw [6, 7, 8, 9, 10, 11, 12, 13, 37] (fun a b c d e f g h i wr => ∃ t : Nat, t ≤ 64 ∧ i = .int .i64 t ∧ a = .int .u32 (rndN (sched zs) (V8.of st) t).a ∧ b = .int .u32 (rndN (sched zs) (V8.of st) t).b ∧ c = .int .u32 (rndN (sched zs) (V8.of st) t).c ∧ d = .int .u32 (rndN (sched zs) (V8.of st) t).d ∧ e = .int .u32 (rndN (sched zs) (V8.of st) t).e ∧ f = .int .u32 (rndN (sched zs) (V8.of st) t).f ∧ g = .int .u32 (rndN (sched zs) (V8.of st) t).g ∧ h = .int .u32 (rndN (sched zs) (V8.of st) t).h ∧ Kept (fun _ => False) w6 wr) (fun _ _ _ _ _ _ _ _ i _ => 64 - (intOf i).toNat)
  case atStart => exact ⟨0, by decide, rfl, rfl, rfl, rfl, rfl, rfl, rfl, rfl, rfl, ((Kept.refl _ _).drewN _).drewN _⟩
  case round =>
    obtain ⟨t, ht, rfl, rfl, rfl, rfl, rfl, rfl, rfl, rfl, rfl, hkp⟩ := hrel
    by_cases hlt : t < 64
    · have cK := HB.out.2.2.2.1.kept hkp (fun h => h) t hlt
      have cW := u32s_cell (HB.out.2.2.1.kept hkp (fun h => h)) t (by rw [sched_length]; exact hlt)
      have HR : Hid (rndN (sched zs) (V8.of st) (t + 1) = rnd (rndN (sched zs) (V8.of st) t) (kWords.getD t 0) ((sched zs).getD t 0)) := rfl
      obtain ⟨kk, hkk⟩ : ∃ y, kWords.getD t 0 = y := ⟨_, rfl⟩
      obtain ⟨ww, hww⟩ : ∃ y, (sched zs).getD t 0 = y := ⟨_, rfl⟩
      obtain ⟨v, hv⟩ : ∃ y, rndN (sched zs) (V8.of st) t = y := ⟨_, rfl⟩
      rw [hkk] at cK HR
      rw [hww] at cW HR
      rw [hv] at HR ⊢
      clear hkk hww hv
      have i1 : (0 : Int) ≤ (t : Int) := by omega
      have i2 : (t : Int) < 64 := by omega
      go_wp2
      go_quiet (first | (go_at_call 62; exact Calls.quiet_of_same (rot_q _ _ (by simp [Turn]) _)))
      go_wp2_with (go_at_call 62; refine (rot_any _ _ (by simp [Turn]) _).mono ?_; rintro e w' ⟨rfl, rfl⟩)
      exact ⟨⟨t + 1, by omega, by go_num, by rw [HR.out]; rfl, by rw [HR.out]; rfl, by rw [HR.out]; rfl, by rw [HR.out]; rfl, by rw [HR.out]; rfl, by rw [HR.out]; rfl, by rw [HR.out]; rfl, by rw [HR.out]; rfl, hkp.drewN _⟩, by simp [intOf]; omega⟩
    · obtain rfl : t = 64 := by omega
      rw [show ((64 : Nat) : Int) = 64 from rfl]
      have HM : Hid (mixF st zs = addW st (rndN (sched zs) (V8.of st) 64).list) := rfl
      obtain ⟨v, hv⟩ : ∃ y, rndN (sched zs) (V8.of st) 64 = y := ⟨_, rfl⟩
      rw [hv] at HM ⊢
      clear hv
      have X0 : Hid (Blk wr w.heap.size 79 (u32s st) ∧ Blk wr (w.heap.size + 2) 79 (u32s (List.replicate 8 0)) ∧ Below w.heap.size w wr ∧ w.heap.size + 3 ≤ wr.heap.size) := by
        refine ⟨HB.out.1.kept hkp (fun h => h), HB.out.2.1.kept hkp (fun h => h), below_kept HB.out.2.2.2.2 hkp HB.out.2.2.2.2.size (fun j _ h => h), ?_⟩
        have := hkp.size
        have := HB.out.2.2.1.lt
        omega
      obtain ⟨w7, rfl⟩ : ∃ w3, w3 = wr := ⟨_, rfl⟩
      clear hkp
      go_wp2
      go_loopw [109] (fun i wr => ∃ k : Nat, k ≤ 8 ∧ i = .int .i64 k ∧ Blk wr w.heap.size 79 (u32s ((mixF st zs).take k ++ st.drop k)) ∧ Kept (fun b => b = w.heap.size) w7 wr) (fun i _ => 8 - (intOf i).toNat)
      case atStart => exact ⟨0, by decide, rfl, X0.out.1, Kept.refl _ _⟩
      case round =>
        obtain ⟨k, hk, rfl, hb, hkp⟩ := hrel
        have hm := mixF_length st zs HS.out
        by_cases hlt : k < 8
        · have cs := u32s_cell hb k (by rw [half_length _ _ 8 k hm HS.out hk]; exact hlt)
          rw [half_at _ _ 8 k hm HS.out hlt] at cs
          have fs := hb.frozen k
          have ix := index_eight v k hlt
          have HA : Hid ((mixF st zs).getD k 0 = (st.getD k 0 + v.list.getD k 0) % 4294967296) := by
            show _ = _
            rw [HM.out]; exact addW_at _ _ 8 k HS.out rfl hlt
          have HE : Hid _ := half_set _ _ 8 k hm HS.out hlt
          obtain ⟨y, hy⟩ : ∃ y, st.getD k 0 = y := ⟨_, rfl⟩
          obtain ⟨z, hz⟩ : ∃ z, v.list.getD k 0 = z := ⟨_, rfl⟩
          rw [hy] at cs HA
          rw [hz] at ix HA
          have X1 : Hid (Blk wr w.heap.size 79 (u32s ((mixF st zs).take k ++ st.drop k))) := hb
          have i1 : (0 : Int) ≤ (k : Int) := by omega
          have i2 : (k : Int) < 8 := by omega
          clear hb hy hz hm
          go_wp2
          have R1 := X1.out.set k (.int .u32 ((y + z) % 4294967296))
          rw [u32s_set, ← HA.out, HE.out, HA.out] at R1
          exact ⟨⟨k + 1, by omega, by go_num, R1, hkp.setCell rfl _⟩, by simp [intOf]; omega⟩
        · obtain rfl : k = 8 := by omega
          rw [show ((8 : Nat) : Int) = 8 from rfl]
          rw [List.take_of_length_le (by omega), List.drop_eq_nil_of_le (by have := HS.out; omega), List.append_nil] at hb
          have X3 : Hid (Blk wr w.heap.size 79 (u32s (mixF st zs))) := hb
          have X4 : Hid (Blk wr (w.heap.size + 2) 79 (u32s (List.replicate 8 0))) := X0.out.2.1.kept hkp (by omega)
          have X5 : Hid (Below w.heap.size w wr) := below_kept X0.out.2.2.1 hkp X0.out.2.2.1.size (fun j hj => by omega)
          have X6 : Hid ((mixF st zs).length = 8) := hm
          clear hb hkp hm
          go_wp2_with (first | (refine wpList_load_blk rfl 79 _ rfl _ rfl (u32s (mixF st zs)) _ X3.out Tryd.underlying79 rfl (by rw [u32s_length, X6.out]; exact size8w) ?_) | (refine wpList_store_blk rfl 79 79 _ _ rfl _ rfl _ (u32s (mixF st zs)) rfl X4.out (by rw [u32s_length, X6.out, u32s_length, List.length_replicate]) (by rw [u32s_length, X6.out]; exact size8w) (u32s_one _) ?_; intro w9 b9 s9 k9))
          exact ret_blk rfl (w.heap.size + 2) (u32s (mixF st zs)) _ rfl b9 Tryd.underlying79 rfl (by rw [u32s_length, X6.out]; exact size8w) rfl ⟨rfl, below_kept X5.out k9 X5.out.size (fun j hj => by omega)⟩
end Go.Proofs.YtiimjhahblmggaaDoor
