/- Layer derive: Derive, Keys. -/
import Derived.Test.YtiimjhahblmggaaDoorVExpand
namespace Go.Proofs.YtiimjhahblmggaaDoor
open Go.RowKit
set_option linter.unusedVariables false
set_option linter.unusedSimpArgs false

set_option maxRecDepth 20000 in
theorem derive_bad (so : Option Addr) (sn sc : Nat) (salt : List Int) (xo : Option Addr) (xn xc : Nat) (sec : List Int) (io : Option Addr) (im ic : Nat) (N : Int) (w : World) (hs : Seen w so sn salt) (hsc : sn ≤ sc) (hx : Seen w xo xn sec) (hxc : xn ≤ xc) (hK : KTab w) (h : ccE N 8160 ≠ 0) :
    Calls Tryd.prog 26 #[.slice so sn sc, .slice xo xn xc, .slice io im ic, .int .i64 N] w fun e w' => e = .returned (.tuple #[.slice none 0 0, .int .i64 (ccE N 8160)]) ∧ Below w.heap.size w w' := by
  have HX : Hid (Seen w so sn salt ∧ sn ≤ sc ∧ Seen w xo xn sec ∧ xn ≤ xc ∧ KTab w) := ⟨hs, hsc, hx, hxc, hK⟩
  have H0 : Hid (ccE N 8160 ≠ 0) := h
  clear hs hsc hx hxc hK h
  go_enter Tryd.func26, Tryd.ntmps26
  go_wp2_with (first | (go_at_call 14; refine (extract_any so sn sc salt xo xn xc sec _ HX.out.1 HX.out.2.1 HX.out.2.2.1 HX.out.2.2.2.1 HX.out.2.2.2.2).mono ?_; rintro e w1 ⟨rfl, l1⟩) | (go_at_call 25; refine (expand_bad _ io im ic N _ H0.out).mono ?_; rintro e w2 ⟨rfl, l2⟩))
  go_ret2
  exact ⟨rfl, below_chain l1 l2 l1.size⟩
set_option maxRecDepth 20000 in
theorem derive_any (so : Option Addr) (sn sc : Nat) (salt : List Int) (xo : Option Addr) (xn xc : Nat) (sec : List Int) (io : Option Addr) (im ic : Nat) (info : List Int) (N : Nat) (hN : N ≤ 8160) (w : World) (hs : Seen w so sn salt) (hsc : sn ≤ sc) (hx : Seen w xo xn sec) (hxc : xn ≤ xc) (hi : Seen w io im info) (hic : im ≤ ic) (hK : KTab w) :
    Calls Tryd.prog 26 #[.slice so sn sc, .slice xo xn xc, .slice io im ic, .int .i64 N] w fun e w' => ∃ R, e = .returned (.tuple #[.slice (some ⟨R, 0, none⟩) N N, .int .i64 0]) ∧ w.heap.size ≤ R ∧ Blk w' R 5 (u8s (exps (mac salt sec) info N)) ∧ Below w.heap.size w w' := by
  have HX : Hid (Seen w so sn salt ∧ sn ≤ sc ∧ Seen w xo xn sec ∧ xn ≤ xc ∧ KTab w) := ⟨hs, hsc, hx, hxc, hK⟩
  have HI : Hid (Seen w io im info ∧ im ≤ ic) := ⟨hi, hic⟩
  clear hs hsc hx hxc hK hi hic
  go_enter Tryd.func26, Tryd.ntmps26
  go_wp2_with (first | (go_at_call 14; refine (extract_any so sn sc salt xo xn xc sec _ HX.out.1 HX.out.2.1 HX.out.2.2.1 HX.out.2.2.2.1 HX.out.2.2.2.2).mono ?_; rintro e w1 ⟨rfl, l1⟩) | (go_at_call 25; refine (expand_any _ (mac_length _ _) (mac_bytes _ _) io im ic info N hN _ (HI.out.1.later l1 (Nat.le_refl _)) HI.out.2 (HX.out.2.2.2.2.below l1 HX.out.2.2.2.2.lt)).mono ?_; rintro e w2 ⟨R, rfl, hR, bR, l2⟩))
  go_ret2
  exact ⟨R, rfl, Nat.le_trans l1.size hR, bR, below_chain l1 l2 l1.size⟩
theorem made32 (m : Nat) : madeCells (u8s (zer 32)).toArray m = (u8s (zer m)).toArray := by
  apply Array.ext
  · simp [madeCells, u8s_length, zer_length]
  · intro i h1 h2
    have hl : (u8s (zer 32)).toArray.size = 32 := by simp [u8s_length, zer_length]
    have hm : i % 32 < 32 := Nat.mod_lt _ (by decide)
    simp only [madeCells, Array.getElem_map, Array.getElem_range, hl]
    rw [getElem!_pos _ _ (by rw [hl]; exact hm)]
    have e1 : ∀ j (h : j < (u8s (zer 32)).length), (u8s (zer 32))[j] = .int .u8 0 := fun j h => by simp only [u8s, List.getElem_map, zer, List.getElem_replicate]
    have e2 : ∀ j (h : j < (u8s (zer m)).length), (u8s (zer m))[j] = .int .u8 0 := fun j h => by simp only [u8s, List.getElem_map, zer, List.getElem_replicate]
    rw [List.getElem_toArray, List.getElem_toArray, e1, e2]
theorem info_Key : (Tryd.prog.info? 65).map (fun i => (i.zero, i.size, i.bytes)) = some (some (.agg (u8s (zer 32)).toArray), 32, 32) := by kernel_rfl
set_option maxRecDepth 20000 in
theorem vkeys_bad (so : Option Addr) (sn sc : Nat) (xo : Option Addr) (xn xc : Nat) (io : Option Addr) (im ic : Nat) (N : Int) (w : World) (h : ccE N 255 ≠ 0) :
    Calls Tryd.prog 30 #[.slice so sn sc, .slice xo xn xc, .slice io im ic, .int .i64 N] w fun e w' => e = .returned (.tuple #[.slice none 0 0, .int .i64 (ccE N 255)]) ∧ w = w' := by
  have h2 : (ccE N 255 == 0) = false := by simpa using h
  obtain ⟨E, hE⟩ : ∃ E, ccE N 255 = E := ⟨_, rfl⟩
  have HE : Hid (ccE N 255 = E) := hE
  rw [hE] at h2 h ⊢
  clear hE
  go_enter Tryd.func30, Tryd.ntmps30
  go_wp2_with (go_at_call 39; refine (cc_any N 255 _).mono ?_; rintro e _ ⟨rfl, rfl⟩; rw [HE.out])
  go_ret2
  exact ⟨rfl, rfl⟩
set_option maxRecDepth 20000 in
set_option maxHeartbeats 1000000 in
theorem vkeys_any (so : Option Addr) (sn sc : Nat) (salt : List Int) (xo : Option Addr) (xn xc : Nat) (sec : List Int) (io : Option Addr) (im ic : Nat) (info : List Int) (n : Nat) (hn : n ≤ 255) (w : World) (hs : Seen w so sn salt) (hsc : sn ≤ sc) (hx : Seen w xo xn sec) (hxc : xn ≤ xc) (hi : Seen w io im info) (hic : im ≤ ic) (hK : KTab w) :
    Calls Tryd.prog 30 #[.slice so sn sc, .slice xo xn xc, .slice io im ic, .int .i64 n] w fun e w' => ∃ R, e = .returned (.tuple #[.slice (some ⟨R, 0, none⟩) n n, .int .i64 0]) ∧ w.heap.size ≤ R ∧ Blk w' R 65 (u8s (exps (mac salt sec) info (32 * n))) ∧ Below w.heap.size w w' := by
  have HX : Hid (Seen w so sn salt ∧ sn ≤ sc ∧ Seen w xo xn sec ∧ xn ≤ xc ∧ KTab w ∧ Seen w io im info ∧ im ≤ ic) := ⟨hs, hsc, hx, hxc, hK, hi, hic⟩
  have HE : Hid (ccE n 255 = 0) := by show ccE n 255 = 0; unfold ccE; rw [if_neg (by omega), if_neg (by omega)]
  obtain ⟨i0, hi0, hz0, hz1, hz2⟩ := info_parts info_Key
  have hmk : ∀ w1 : World, _ := fun w1 => run_make (P := Tryd.prog) w1 60 65 i0 _ Tryd.underlying60 hi0 hz0 .i64 .i64 (n : Int) (n : Int) (by omega) (Int.le_refl _) (by rw [hz2]; omega) (by omega)
  simp only [hz1, Int.toNat_natCast] at hmk
  clear hs hsc hx hxc hK hi hic
  have e32 : (n : Int) * 32 = ((32 * n : Nat) : Int) := by omega
  go_enter Tryd.func30, Tryd.ntmps30
  go_wp2_with (first | (go_at_call 39; refine (cc_any n 255 _).mono ?_; rintro e _ ⟨rfl, rfl⟩; rw [HE.out]) | (go_at_call 26; refine (derive_any so sn sc salt xo xn xc sec io im ic info (32 * n) (by omega) _ HX.out.1 HX.out.2.1 HX.out.2.2.1 HX.out.2.2.2.1 HX.out.2.2.2.2.2.1 HX.out.2.2.2.2.2.2 HX.out.2.2.2.2.1).mono ?_; rintro e w1 ⟨R, rfl, hR, bR, l1⟩))
  rw [made32, Nat.mul_comm n 32]
  obtain ⟨E, hE⟩ : ∃ E, exps (mac salt sec) info (32 * n) = E := ⟨_, rfl⟩
  have HEE : Hid (exps (mac salt sec) info (32 * n) = E ∧ E.length = 32 * n ∧ Bytes E) := ⟨hE, by rw [← hE]; exact exps_length _ _ _, by rw [← hE]; exact exps_bytes _ _ _⟩
  rw [hE] at bR
  have HB : Hid (Blk (w1.alloc (.cells (u8s (zer (32 * n))).toArray 65)) w1.heap.size 65 (u8s (zer (32 * n))) ∧ Blk (w1.alloc (.cells (u8s (zer (32 * n))).toArray 65)) R 5 (u8s E) ∧ Below w.heap.size w (w1.alloc (.cells (u8s (zer (32 * n))).toArray 65)) ∧ R < w1.heap.size ∧ w.heap.size ≤ w1.heap.size) := ⟨heap_alloc_new w1 _, bR.later ((Below.refl _ _).alloc (Nat.le_refl _) _) bR.lt, l1.alloc l1.size _, bR.lt, l1.size⟩
  obtain ⟨w2, hw2⟩ : ∃ w2, w1.alloc (.cells (u8s (zer (32 * n))).toArray 65) = w2 := ⟨_, rfl⟩
  rw [hw2] at HB ⊢
  clear hw2 bR l1 hmk hE e32 hR hi0 hz0 hz1 hz2
  go_loopw [36] (fun i wr => ∃ k : Nat, k ≤ n ∧ i = .int .i64 k ∧ Blk wr w1.heap.size 65 (u8s (E.take (32 * k) ++ zer (32 * n - 32 * k))) ∧ Kept (fun b => b = w1.heap.size) w2 wr) (fun i _ => n - (intOf i).toNat)
  case atStart => exact ⟨0, Nat.zero_le _, rfl, HB.out.1, Kept.refl _ _⟩
  case round =>
    obtain ⟨k, hk, rfl, hb, hkp⟩ := hrel
    have hEl := HEE.out.2.1
    by_cases hlt : k < n
    · have i1 : (0 : Int) ≤ (k : Int) := by omega
      have i2 : (k : Int) < (n : Int) := by omega
      have HR : Hid (Blk wr w1.heap.size 65 (u8s (E.take (32 * k)) ++ (u8s (zer 32) ++ u8s (zer (32 * n - 32 * (k + 1))))) ∧ Seen wr (some ⟨R, 32 * k, none⟩) (32 * n - 32 * k) (E.drop (32 * k)) ∧ Kept (fun b => b = w1.heap.size) w2 wr) := by
        refine ⟨?_, ?_, hkp⟩
        · rw [show 32 * n - 32 * k = 32 + (32 * n - 32 * (k + 1)) by omega, zer_add] at hb
          simpa [u8s] using hb
        · have q := (seen_blk (HB.out.2.1.kept hkp (by have := HB.out.2.2.2.1; omega)) HEE.out.2.2 (by omega)).sub (32 * k) E.length E.length (by omega) (Nat.le_refl _) (Nat.le_refl _)
          rw [hEl, show subA (some ⟨R, 0, none⟩) (32 * k) (32 * n) = some ⟨R, 32 * k, none⟩ by unfold subA; rw [if_neg (by omega)]; simp [add_mid], List.take_of_length_le (by rw [List.length_drop, hEl]; exact Nat.le_refl _)] at q
          exact q
      have HA : Hid ((u8s (E.take (32 * k))).length = 32 * k ∧ ∀ l, l = u8s (E.take (32 * k)) ++ (u8s ((E.drop (32 * k)).take 32) ++ u8s (zer (32 * n - 32 * (k + 1)))) → l = u8s (E.take (32 * (k + 1)) ++ zer (32 * n - 32 * (k + 1)))) := by
        refine ⟨by rw [u8s_length, List.length_take, hEl]; omega, fun l hl => ?_⟩
        rw [hl, show 32 * (k + 1) = 32 * k + 32 by omega, List.take_add]
        simp [u8s]
      have g1 : ∀ wx, (Instr.sliceAt 22 (.slice (some ⟨R, 0, none⟩) (32 * n) (32 * n)) (some (.int .i64 (32 * (k : Int)))) none none).run Tryd.prog wx = .ok (.slice (some ⟨R, 32 * k, none⟩) (32 * n - 32 * k) (32 * n - 32 * k)) wx := fun wx => by
        have q := sl_l (some ⟨R, 0, none⟩) (32 * n) (32 * n) (32 * k) (by omega) wx
        rw [show subA (some ⟨R, 0, none⟩) (32 * k) (32 * n) = some ⟨R, 32 * k, none⟩ by unfold subA; rw [if_neg (by omega)]; simp [add_mid], show ((32 * k : Nat) : Int) = 32 * (k : Int) by omega] at q
        exact q
      have v6 : IntKind.i64.wrap ((k : Int) * 32) = 32 * (k : Int) := by simp only [IntKind.wrap, IntKind.bits, IntKind.signed]; simp; omega
      have hmin : Nat.min (32 * n - 32 * k) 32 = 32 := Nat.min_eq_right (by omega)
      clear hb hkp hEl
      go_wp2
      refine wp_region_noPanic (wp_region_any (by kernel_rfl) ?_)
      refine take_op 0 (some 39) (.slice (some ⟨w1.heap.size, 0, none⟩) n n) rfl rfl (by kernel_rfl) (by kernel_rfl) (by kernel_rfl) (fun _ _ _ h => h) (by rfl) (fun _ => by rfl) ?_
      simp only [Act.put, List.setIfInBounds_toArray, List.set_cons_zero, List.set_cons_succ]
      refine take_op 1 (some 40) (.int .i64 (k : Int)) rfl rfl (by kernel_rfl) (by kernel_rfl) (by kernel_rfl) (fun _ _ _ h => h) (by rfl) (fun _ => by rfl) ?_
      simp only [Act.put, List.setIfInBounds_toArray, List.set_cons_zero, List.set_cons_succ]
      refine take_op 2 (some 41) (.pointer (some ⟨w1.heap.size, 32 * k, none⟩)) rfl rfl (by kernel_rfl) (by kernel_rfl) (by kernel_rfl) (fun _ _ _ h => h) (by rfl) (fun _ => by go_simp) ?_
      simp only [Act.put, List.setIfInBounds_toArray, List.set_cons_zero, List.set_cons_succ]
      refine take_op 3 (some 42) (.slice (some ⟨w1.heap.size, 32 * k, none⟩) 32 32) rfl rfl (by kernel_rfl) (by kernel_rfl) (by kernel_rfl) (fun _ _ _ h => h) (by rfl) (fun _ => by rfl) ?_
      simp only [Act.put, List.setIfInBounds_toArray, List.set_cons_zero, List.set_cons_succ]
      refine take_op 4 (some 43) (.slice (some ⟨R, 0, none⟩) (32 * n) (32 * n)) rfl rfl (by kernel_rfl) (by kernel_rfl) (by kernel_rfl) (fun _ _ _ h => h) (by rfl) (fun _ => by rfl) ?_
      simp only [Act.put, List.setIfInBounds_toArray, List.set_cons_zero, List.set_cons_succ]
      refine take_op 5 (some 44) (.int .i64 (k : Int)) rfl rfl (by kernel_rfl) (by kernel_rfl) (by kernel_rfl) (fun _ _ _ h => h) (by rfl) (fun _ => by rfl) ?_
      simp only [Act.put, List.setIfInBounds_toArray, List.set_cons_zero, List.set_cons_succ]
      refine take_op 6 (some 45) (.int .i64 (32 * (k : Int))) rfl rfl (by kernel_rfl) (by kernel_rfl) (by kernel_rfl) (fun _ _ _ h => h) (by rfl) (fun _ => by go_simp) ?_
      simp only [Act.put, List.setIfInBounds_toArray, List.set_cons_zero, List.set_cons_succ]
      refine take_op 7 (some 46) (.slice (some ⟨R, 32 * k, none⟩) (32 * n - 32 * k) (32 * n - 32 * k)) rfl rfl (by kernel_rfl) (by kernel_rfl) (by kernel_rfl) (fun _ _ _ h => h) (by rfl) (fun _ => by go_simp) ?_
      simp only [Act.put, List.setIfInBounds_toArray, List.set_cons_zero, List.set_cons_succ]
      refine wpAny_ready (rs := [8]) (by kernel_rfl) (by simp) (AllReady.cons rfl (fun K hK => ?_) AllReady.nil)
      refine step_copy_seen rfl (.tmp 42) (.tmp 46) rfl w1.heap.size (32 * k) 32 32 (some ⟨w1.heap.size, 32 * k, none⟩) (some ⟨R, 32 * k, none⟩) (32 * n - 32 * k) (32 * n - 32 * k) rfl rfl (E.drop (32 * k)) HR.out.2.1.drew 65 (u8s (E.take (32 * k))) (u8s (zer 32)) (u8s (zer (32 * n - 32 * (k + 1)))) HR.out.1.drew HA.out.1 32 hmin (by rw [u8s_length, zer_length]) (fun _ => rfl) (some 47) rfl ?_
      intro w6 b6 s6 k6
      refine hK _ _ ?_
      clear hK K
      have H6 : Hid (Blk w6 w1.heap.size 65 (u8s (E.take (32 * (k + 1)) ++ zer (32 * n - 32 * (k + 1)))) ∧ Kept (fun b => b = w1.heap.size) w2 w6) := ⟨by rw [← HA.out.2 _ rfl]; exact b6, HR.out.2.2.drew.trans k6⟩
      clear b6 s6 k6 HA HR g1
      refine wpAny_done (by kernel_rfl) (NoPanic.normal ?_) _
      go_wp2
      exact ⟨⟨k + 1, by omega, by go_num, H6.out.1, H6.out.2⟩, by simp [intOf]; omega⟩
    · obtain rfl : k = n := by omega
      rw [Nat.sub_self, show zer 0 = [] from rfl, List.append_nil, List.take_of_length_le (by omega)] at hb
      have HF : Hid (Blk wr w1.heap.size 65 (u8s E) ∧ Below w.heap.size w wr ∧ w.heap.size ≤ w1.heap.size) := ⟨hb, below_kept HB.out.2.2.1 hkp HB.out.2.2.1.size (fun j hj => by have := HB.out.2.2.2.2; omega), HB.out.2.2.2.2⟩
      clear hb hkp hEl
      go_wp2
      go_ret2
      exact ⟨w1.heap.size, rfl, HF.out.2.2, by rw [HEE.out.1]; exact HF.out.1, HF.out.2.1⟩
end Go.Proofs.YtiimjhahblmggaaDoor
