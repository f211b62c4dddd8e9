/- Layer derive: Expand. -/
import Derived.Test.YtiimjhahblmggaaDoorVMac
import Derived.Test.YtiimjhahblmggaaDoorVSlice
namespace Go.Proofs.YtiimjhahblmggaaDoor
open Go.RowKit
set_option linter.unusedVariables false
set_option linter.unusedSimpArgs false

def ccE (n most : Int) : Int := if n < 0 then 2 else if most < n then 3 else 0
set_option maxRecDepth 20000 in
theorem cc_any (n most : Int) (w : World) : Calls Tryd.prog 39 #[.int .i64 n, .int .i64 most] w fun e w' => e = .returned (.int .i64 (ccE n most)) ∧ w = w' := by
  unfold ccE
  by_cases h1 : n < 0
  · rw [if_pos h1]
    go_enter Tryd.func39, Tryd.ntmps39
    go_wp2
    go_ret
    exact ⟨rfl, rfl⟩
  · rw [if_neg h1]
    by_cases h2 : most < n
    · rw [if_pos h2]
      go_enter Tryd.func39, Tryd.ntmps39
      go_wp2
      go_ret
      exact ⟨rfl, rfl⟩
    · rw [if_neg h2]
      go_enter Tryd.func39, Tryd.ntmps39
      go_wp2
      go_ret
      exact ⟨rfl, rfl⟩
theorem made_zero (n : Nat) : (madeCells #[Value.int .u8 0] n) = (u8s (zer n)).toArray := by
  apply Array.ext'
  rw [toList_madeCells_one]
  simp [u8s, zer]
set_option maxRecDepth 20000 in
theorem expand_bad (prk : List Int) (io : Option Addr) (im ic : Nat) (N : Int) (w : World) (h : ccE N 8160 ≠ 0) :
    Calls Tryd.prog 25 #[.agg (u8s prk).toArray, .slice io im ic, .int .i64 N] w fun e w' => e = .returned (.tuple #[.slice none 0 0, .int .i64 (ccE N 8160)]) ∧ Below w.heap.size w w' := by
  have h2 : (ccE N 8160 == 0) = false := by simpa using h
  obtain ⟨E, hE⟩ : ∃ E, ccE N 8160 = E := ⟨_, rfl⟩
  have HE : Hid (ccE N 8160 = E) := hE
  rw [hE] at h2 h ⊢
  clear hE
  go_enter Tryd.func25, Tryd.ntmps25
  go_wp2_with (first | (refine wpList_box_new rfl 28 _ rfl (u8s prk) rfl ?_; intro w1 b1 s1 l1; have Z1 : Hid (w1.heap.size = w.heap.size + 1) := s1; clear s1) | (go_at_call 39; refine (cc_any N 8160 _).mono ?_; rintro e _ ⟨rfl, rfl⟩; rw [HE.out]))
  go_ret2
  exact ⟨rfl, l1⟩
set_option maxRecDepth 20000 in
set_option maxHeartbeats 1000000 in
theorem expand_any (prk : List Int) (hp : prk.length = 32) (hpb : Bytes prk) (io : Option Addr) (im ic : Nat) (info : List Int) (N : Nat) (hN : N ≤ 8160) (w : World) (hx : Seen w io im info) (hic : im ≤ ic) (hK : KTab w) :
    Calls Tryd.prog 25 #[.agg (u8s prk).toArray, .slice io im ic, .int .i64 N] w fun e w' => ∃ R, e = .returned (.tuple #[.slice (some ⟨R, 0, none⟩) N N, .int .i64 0]) ∧ w.heap.size ≤ R ∧ Blk w' R 5 (u8s (exps prk info N)) ∧ Below w.heap.size w w' := by
  have HX : Hid (Seen w io im info ∧ im ≤ ic ∧ KTab w ∧ prk.length = 32 ∧ Bytes prk) := ⟨hx, hic, hK, hp, hpb⟩
  have q0 := hK.lt
  have hit := hx.top
  have HL : Hid (info.length = im) := hx.len
  have HE : Hid (ccE N 8160 = 0) := by show ccE N 8160 = 0; unfold ccE; rw [if_neg (by omega), if_neg (by omega)]
  obtain ⟨i0, hi, hz0, hz1, hz2⟩ := info_parts info_byte
  have hmk : ∀ w1 : World, _ := fun w1 => run_make (P := Tryd.prog) w1 22 5 i0 (.int .u8 0) Tryd.underlying22 hi hz0 .i64 .i64 (N : Int) (N : Int) (by omega) (Int.le_refl _) (by rw [hz2]; omega) (by omega)
  simp only [hz1, Int.toNat_natCast, Nat.mul_one, show (Value.int .u8 0).cells = #[.int .u8 0] from rfl, made_zero] at hmk
  clear hx hic hK hi hz0 hz1 hz2 hp hpb
  go_enter Tryd.func25, Tryd.ntmps25
  go_wp2_with (first | (refine wpList_box_new rfl 28 _ rfl (u8s prk) rfl ?_; intro w1 b1 s1 l1; have Z1 : Hid (w1.heap.size = w.heap.size + 1) := s1; clear s1) | (go_at_call 39; refine (cc_any N 8160 _).mono ?_; rintro e _ ⟨rfl, rfl⟩; rw [HE.out]))
  have HB : Hid (Blk (w1.alloc (.cells (u8s (zer N)).toArray 5)) w1.heap.size 5 (u8s (zer N)) ∧ Blk (w1.alloc (.cells (u8s (zer N)).toArray 5)) w.heap.size 28 (u8s prk) ∧ Below w.heap.size w (w1.alloc (.cells (u8s (zer N)).toArray 5)) ∧ w1.heap.size = w.heap.size + 1) := by
    have := Z1.out
    exact ⟨heap_alloc_new w1 _, b1.later ((Below.refl _ _).alloc (Nat.le_refl _) _) (by omega), l1.alloc (by omega) _, Z1.out⟩
  obtain ⟨w2, hw2⟩ : ∃ w2, w1.alloc (.cells (u8s (zer N)).toArray 5) = w2 := ⟨_, rfl⟩
  rw [hw2] at HB ⊢
  clear hw2 b1 l1 hmk
  go_loopw [10, 11, 12] (fun v at' i wr => ∃ (k a : Nat) (lo : Option Addr), a ≤ N ∧ a ≤ 32 * k ∧ (a = 32 * k ∨ a = N) ∧ v = .slice lo (expT prk info k).length (expT prk info k).length ∧ at' = .int .i64 a ∧ i = .int .u8 (((k : Int) + 1) % 256) ∧ Seen wr lo (expT prk info k).length (expT prk info k) ∧ (∀ b o, lo = some ⟨b, o, none⟩ → b ≠ w1.heap.size) ∧ Blk wr w1.heap.size 5 (u8s ((expA prk info k).take a ++ zer (N - a))) ∧ Blk wr w.heap.size 28 (u8s prk) ∧ Below w.heap.size w wr) (fun _ at' _ _ => N - (intOf at').toNat)
  case atStart => exact ⟨0, 0, none, Nat.zero_le _, Nat.zero_le _, .inl rfl, rfl, rfl, rfl, Seen.empty _ _, (fun b o h => by cases h), HB.out.1, HB.out.2.1, HB.out.2.2.1⟩
  case round =>
    obtain ⟨k, a, lo, haN, hak, hor, rfl, rfl, rfl, hlo, hln, hR, hP, hbel⟩ := hrel
    by_cases hlt : a < N
    · obtain rfl : a = 32 * k := by omega
      have hk : k < 255 := by omega
      have ht0 : (expT prk info k).length ≤ 32 := by
        cases k with
        | zero => exact Nat.zero_le _
        | succ k => rw [expT_length]; exact Nat.le_refl _
      obtain ⟨T, hT⟩ : ∃ T, expT prk info k = T := ⟨_, rfl⟩
      obtain ⟨T1, hT1⟩ : ∃ T1, expT prk info (k + 1) = T1 := ⟨_, rfl⟩
      obtain ⟨X, hX⟩ : ∃ X : Int, ((k : Int) + 1) % 256 = X := ⟨_, rfl⟩
      have hX0 : 0 ≤ X ∧ X < 256 := by omega
      rw [hT] at hlo ht0
      rw [hT, hX]
      have HT1 : Hid (T1 = expT prk info (k + 1) ∧ T1.length = 32) := ⟨hT1.symm, by rw [← hT1]; exact expT_length _ _ _⟩
      have HT : Hid (mac prk ([T, info, [X]] : List (List Int)).flatten = T1 ∧ T1.length = 32 ∧ Bytes T1 ∧ ([T, info, [X]] : List (List Int)).flatten.length < 4611686018427387904) := ⟨by rw [← hT1, ← hT, ← hX]; simp [expT], by rw [← hT1]; exact expT_length _ _ _, by rw [← hT1]; exact expT_bytes _ _ _, by simp; have := HL.out; omega⟩
      obtain ⟨m, hm⟩ : ∃ m, Nat.min 32 (N - 32 * k) = m := ⟨_, rfl⟩
      have hmm : Hid (Nat.min 32 (N - 32 * k) = m) := hm
      have hm1 : m ≤ 32 := by rw [← hm]; exact Nat.min_le_left _ _
      have hm2 : m ≤ N - 32 * k := by rw [← hm]; exact Nat.min_le_right _ _
      have hm3 : m = 32 ∨ m = N - 32 * k := by rcases Nat.le_total 32 (N - 32 * k) with h | h; exact .inl (by rw [← hm]; exact Nat.min_eq_left h); exact .inr (by rw [← hm]; exact Nat.min_eq_right h)
      have hm0 : 0 < m := by omega
      have HA : Hid ((u8s ((expA prk info k).take (32 * k))).length = 32 * k ∧ ∀ l, l = u8s ((expA prk info k).take (32 * k)) ++ (u8s (T1.take m) ++ u8s (zer (N - 32 * k - m))) → l = u8s ((expA prk info (k + 1)).take (32 * k + m) ++ zer (N - (32 * k + m)))) := by
        have el := expA_length prk info k
        refine ⟨by rw [u8s_length, List.length_take, el]; omega, fun l hl => ?_⟩
        rw [hl, expA, hT1, List.take_of_length_le (by omega), List.take_append, el, Nat.add_sub_cancel_left, List.take_of_length_le (l := expA prk info k) (by omega), Nat.sub_sub]
        simp [u8s]
      have HR : Hid (Blk wr w1.heap.size 5 (u8s ((expA prk info k).take (32 * k)) ++ (u8s (zer m) ++ u8s (zer (N - 32 * k - m)))) ∧ Blk wr w.heap.size 28 (u8s prk) ∧ Below w.heap.size w wr ∧ Seen wr lo T.length T ∧ (∀ b o, lo = some ⟨b, o, none⟩ → b ≠ w1.heap.size) ∧ KTab wr) := ⟨by
        rw [show N - 32 * k = m + (N - 32 * k - m) by omega, zer_add] at hR
        simpa [u8s] using hR, hP, hbel, hlo, hln, HX.out.2.2.1.below hbel q0⟩
      have HK : Hid (SeenP ((wr.alloc (.cells #[.int .u8 X] 5)).alloc (.cells #[.slice lo T.length T.length, .slice io info.length ic, .slice (some ⟨wr.heap.size, 0, none⟩) 1 1] 22)) (some ⟨wr.heap.size + 1, 0, none⟩) 3 [T, info, [X]] ∧ Seen ((wr.alloc (.cells #[.int .u8 X] 5)).alloc (.cells #[.slice lo T.length T.length, .slice io info.length ic, .slice (some ⟨wr.heap.size, 0, none⟩) 1 1] 22)) (some ⟨w.heap.size, 0, none⟩) 32 prk ∧ Below wr.heap.size wr ((wr.alloc (.cells #[.int .u8 X] 5)).alloc (.cells #[.slice lo T.length T.length, .slice io info.length ic, .slice (some ⟨wr.heap.size, 0, none⟩) 1 1] 22))) := by
        have BA : Below wr.heap.size wr (wr.alloc (.cells #[.int .u8 X] 5)) := (Below.refl _ _).alloc (Nat.le_refl _) _
        have BB : Below wr.heap.size wr ((wr.alloc (.cells #[.int .u8 X] 5)).alloc (.cells #[.slice lo T.length T.length, .slice io info.length ic, .slice (some ⟨wr.heap.size, 0, none⟩) 1 1] 22)) := BA.alloc BA.size _
        have sX : Seen (wr.alloc (.cells #[.int .u8 X] 5)) (some ⟨wr.heap.size, 0, none⟩) 1 [X] := Seen.of_row (n := 1) (RowAt.new wr [X]) (Nat.le_refl 1) (by decide) (by intro z hz; simp at hz; omega)
        have q := seenP3 (wr.alloc (.cells #[.int .u8 X] 5)) lo io (some ⟨wr.heap.size, 0, none⟩) T.length ic 1 T info [X] (hlo.later BA (Nat.le_refl _)) (by have q := (HX.out.1.later hbel (Nat.le_refl _)).later BA (Nat.le_refl _); rw [← HL.out] at q; exact q) sX (Nat.le_refl _) (by have := HX.out.2.1; have := HL.out; omega) (Nat.le_refl 1)
        rw [show (wr.alloc (.cells #[.int .u8 X] 5)).heap.size = wr.heap.size + 1 by simp] at q
        have q2 := seen_blk (hP.later BB hP.lt) HX.out.2.2.2.2 (by rw [HX.out.2.2.2.1]; decide)
        rw [HX.out.2.2.2.1] at q2
        exact ⟨q, q2, BB⟩
      have g1 : ∀ wx, (Instr.sliceAt 22 (.slice (some ⟨w1.heap.size, 0, none⟩) N N) (some (.int .i64 (32 * (k : Int)))) none none).run Tryd.prog wx = .ok (.slice (some ⟨w1.heap.size, 32 * k, none⟩) (N - 32 * k) (N - 32 * k)) wx := fun wx => by
        have q := sl_l (some ⟨w1.heap.size, 0, none⟩) N N (32 * k) haN wx
        rw [show subA (some ⟨w1.heap.size, 0, none⟩) (32 * k) N = some ⟨w1.heap.size, 32 * k, none⟩ by unfold subA; rw [if_neg (by omega)]; simp [add_mid], show ((32 * k : Nat) : Int) = 32 * (k : Int) by omega] at q
        exact q
      obtain rfl := HL.out
      have i1 : (32 * (k : Int)) < (N : Int) := by omega
      have hXk : X = (k : Int) + 1 := by omega
      have HXk : Hid (X = (k : Int) + 1) := hXk
      have i3 : ((32 * k : Nat) : Int) = 32 * (k : Int) := by omega
      rw [i3]
      clear hlo hln hR hP hbel hT hT1 hX hm hXk i3
      go_wp2_with (first | (go_at_call 12; refine (vsum_any _ 32 32 prk _ 3 3 [T, info, [X]] _ HK.out.2.1 (Nat.le_refl _) HK.out.1 (by decide) HT.out.2.2.2 (HR.out.2.2.2.2.2.below HK.out.2.2 HR.out.2.2.2.2.2.lt)).mono ?_; rintro e w3 ⟨rfl, l3⟩; rw [HT.out.1]; have G3 : Hid (Below wr.heap.size wr w3) := below_chain HK.out.2.2 l3 HK.out.2.2.size; clear l3) | (refine wpList_alloc_new rfl 28 rfl 32 _ zeroAH ?_; intro w4 b4 s4 l4; have Z4 : Hid (w4.heap.size = w3.heap.size + 1) := s4; clear s4) | (refine wpList_store_blk rfl 28 28 _ _ rfl _ rfl _ (u8s T1) rfl b4 (by rw [u8s_length, HT.out.2.1, u8s_length, zer_length]) (by rw [u8s_length, HT.out.2.1]; exact sizeAH) (u8s_one _) ?_; intro w5 b5 s5 k5; have G5 : Hid (Blk w5 w3.heap.size 28 (u8s T1) ∧ Seen w5 (some ⟨w3.heap.size, 0, none⟩) 32 T1 ∧ Below wr.heap.size wr w5 ∧ w3.heap.size < w5.heap.size ∧ wr.heap.size ≤ w3.heap.size) := (by have := Z4.out; have q := G3.out.size; have sq := seen_blk b5 HT.out.2.2.1 (by rw [HT.out.2.1]; decide); rw [HT.out.2.1] at sq; exact ⟨b5, sq, below_kept (below_chain G3.out l4 (by omega)) k5 (by omega) (fun j hj => by omega), by omega, q⟩); clear b5 s5 k5 b4 l4; have G5b : Hid (Blk w5 w1.heap.size 5 (u8s ((expA prk info k).take (32 * k)) ++ (u8s (zer m) ++ u8s (zer (N - 32 * k - m))))) := HR.out.1.later G5.out.2.2.1 HR.out.1.lt))
      simp only [Act.put, List.setIfInBounds_toArray, List.set_cons_zero, List.set_cons_succ]
      refine wp_region_noPanic (wp_region_any (by kernel_rfl) ?_)
      refine take_op 0 (some 33) (.int .i64 (32 * (k : Int))) rfl rfl (by kernel_rfl) (by kernel_rfl) (by kernel_rfl) (fun _ _ _ h => h) (by rfl) (fun _ => by rfl) ?_
      simp only [Act.put, List.setIfInBounds_toArray, List.set_cons_zero, List.set_cons_succ]
      refine take_op 1 (some 34) (.slice (some ⟨w1.heap.size, 0, none⟩) N N) rfl rfl (by kernel_rfl) (by kernel_rfl) (by kernel_rfl) (fun _ _ _ h => h) (by rfl) (fun _ => by rfl) ?_
      simp only [Act.put, List.setIfInBounds_toArray, List.set_cons_zero, List.set_cons_succ]
      refine take_op 2 (some 35) (.int .i64 (32 * (k : Int))) rfl rfl (by kernel_rfl) (by kernel_rfl) (by kernel_rfl) (fun _ _ _ h => h) (by rfl) (fun _ => by rfl) ?_
      simp only [Act.put, List.setIfInBounds_toArray, List.set_cons_zero, List.set_cons_succ]
      refine take_op 3 (some 36) (.slice (some ⟨w1.heap.size, 32 * k, none⟩) (N - 32 * k) (N - 32 * k)) rfl rfl (by kernel_rfl) (by kernel_rfl) (by kernel_rfl) (fun _ _ _ h => h) (by rfl) (fun _ => by go_simp) ?_
      simp only [Act.put, List.setIfInBounds_toArray, List.set_cons_zero, List.set_cons_succ]
      refine take_op 4 (some 37) (.slice (some ⟨w3.heap.size, 0, none⟩) 32 32) rfl rfl (by kernel_rfl) (by kernel_rfl) (by kernel_rfl) (fun _ _ _ h => h) (by rfl) (fun _ => by rfl) ?_
      simp only [Act.put, List.setIfInBounds_toArray, List.set_cons_zero, List.set_cons_succ]
      refine wpAny_ready (rs := [5]) (by kernel_rfl) (by simp) (AllReady.cons rfl (fun K hK => ?_) AllReady.nil)
      refine step_copy_seen rfl (.tmp 36) (.tmp 37) rfl w1.heap.size (32 * k) (N - 32 * k) (N - 32 * k) (some ⟨w1.heap.size, 32 * k, none⟩) (some ⟨w3.heap.size, 0, none⟩) 32 32 rfl rfl T1 G5.out.2.1.drew 5 (u8s ((expA prk info k).take (32 * k))) (u8s (zer m)) (u8s (zer (N - 32 * k - m))) G5b.out.drew HA.out.1 m hmm.out (by rw [u8s_length, zer_length]) (fun _ => rfl) (some 38) rfl ?_
      intro w6 b6 s6 k6
      refine hK _ _ ?_
      clear hK K
      have k6 : Kept (fun b => b = w1.heap.size) w5 w6 := (Kept.refl _ w5).drew.trans k6
      have H6 : Hid (Blk w6 w1.heap.size 5 (u8s ((expA prk info (k + 1)).take (32 * k + m) ++ zer (N - (32 * k + m)))) ∧ Seen w6 (some ⟨w3.heap.size, 0, none⟩) 32 T1 ∧ Blk w6 w.heap.size 28 (u8s prk) ∧ Below w.heap.size w w6 ∧ w3.heap.size ≠ w1.heap.size) := by
        have z1 := HB.out.2.2.2
        have zR := HR.out.1.lt
        have zP := HR.out.2.1.lt
        obtain ⟨x1, x2, x3, x4, x5⟩ := G5.out
        have hne : w3.heap.size ≠ w1.heap.size := by omega
        refine ⟨by rw [← HA.out.2 _ rfl]; exact b6, x2.kept k6 (fun b o _ e => by simp at e; omega), (HR.out.2.1.later x3 zP).kept k6 (by omega), ?_, hne⟩
        have bb := below_chain HR.out.2.2.1 x3 HR.out.2.2.1.size
        exact below_kept bb k6 bb.size (fun j hj => by omega)
      have HTT : Hid (T1 = expT prk info (k + 1) ∧ T1.length = 32) := HT1.out
      have v6 : IntKind.i64.wrap (32 * (k : Int) + (m : Int)) = 32 * (k : Int) + (m : Int) := by simp only [IntKind.wrap, IntKind.bits, IntKind.signed]; simp; omega
      clear b6 s6 k6 HK HA HR G5 G5b HT G3 g1
      refine take_op 6 (some 39) (.int .i64 (32 * (k : Int) + (m : Int))) rfl rfl (by kernel_rfl) (by kernel_rfl) (by kernel_rfl) (fun _ _ _ h => h) (by rfl) (fun _ => by go_simp) ?_
      simp only [Act.put, List.setIfInBounds_toArray, List.set_cons_zero, List.set_cons_succ]
      refine take_op 7 (some 11) (.int .i64 (32 * (k : Int) + (m : Int))) rfl rfl (by kernel_rfl) (by kernel_rfl) (by kernel_rfl) (fun _ _ _ h => h) (by rfl) (fun _ => by rfl) ?_
      simp only [Act.put, List.setIfInBounds_toArray, List.set_cons_zero, List.set_cons_succ]
      refine wpAny_done (by kernel_rfl) (NoPanic.normal ?_) _
      go_wp2
      refine ⟨⟨k + 1, 32 * k + m, some ⟨w3.heap.size, 0, none⟩, by omega, by omega, by omega, by rw [← HTT.out.1, HTT.out.2], by go_num, ?_, by rw [← HTT.out.1, HTT.out.2]; exact H6.out.2.1, (fun b o e => by simp at e; have := H6.out.2.2.2.2; omega), H6.out.1, H6.out.2.2.1, H6.out.2.2.2.1⟩, by simp [intOf]; omega⟩
      rw [HXk.out]
      congr 1
    · obtain rfl : a = N := by omega
      have HF : Hid (Blk wr w1.heap.size 5 (u8s (exps prk info a)) ∧ Below w.heap.size w wr) := ⟨by
        rw [Nat.sub_self, show zer 0 = [] from rfl, List.append_nil, expA_take prk info ((a + 31) / 32) k a (by omega) (by omega)] at hR
        exact hR, hbel⟩
      clear hlo hln hR hP hbel
      go_wp2
      go_ret2
      exact ⟨w1.heap.size, rfl, by have := HB.out.2.2.2; omega, HF.out.1, HF.out.2⟩
end Go.Proofs.YtiimjhahblmggaaDoor
