/- The document's numbers: Power, Invert. -/
import Derived.Test.YtfeeikkfjbdkiaaRFMul
import Derived.Test.YtfeeikkfjbdkiaaRFOf
import Derived.Test.YtfeeikkfjbdkiaaFPow
import Derived.Test.YtfeeikkfjbdkiaaFInvM
import Derived.Test.YtfeeikkfjbdkiaaRInvT
namespace Go.Proofs.Ytfeeikkfjbdkiaa
open Go.RowKit
set_option linter.unusedVariables false
set_option linter.unusedSimpArgs false

theorem le_num (P : Int) (h : 0 ≤ P ∧ P < PR) : le (leB 32 P) = P := by
  rw [le_leB]
  exact Int.emod_eq_of_lt h.1 (Int.lt_trans h.2 (by decide))
theorem rmul_num (P Q : Int) (hp : 0 ≤ P ∧ P < PR) (hq : 0 ≤ Q ∧ Q < PR) (w : World) :
    Calls Try.prog 46 #[.agg (u8s (leB 32 P)).toArray, .agg (u8s (leB 32 Q)).toArray] w fun e w' => e = .returned (.agg (u8s (leB 32 ((P * Q) % PR))).toArray) ∧ Below w.heap.size w w' := by
  have h := rmul_any (leB 32 P) (leB 32 Q) (leB_length _ _) (leB_bytes _ _) (leB_length _ _) (leB_bytes _ _) w
  rwa [le_num P hp, le_num Q hq] at h
theorem mod_bd (a : Int) : 0 ≤ a % PR ∧ a % PR < PR := ⟨Int.emod_nonneg _ (by decide), Int.emod_lt_of_pos _ (by decide)⟩
set_option maxRecDepth 20000 in
set_option maxHeartbeats 2000000 in
theorem rpower_any (A : Int) (es : List Int) (hA : 0 ≤ A ∧ A < PR) (hl : es.length = 32) (hb : Bytes es) (w : World) :
    Calls Try.prog 24 #[.agg (u8s (leB 32 A)).toArray, .agg (u8s es).toArray] w fun e w' => e = .returned (.agg (u8s (leB 32 (A ^ (le es).toNat % PR))).toArray) ∧ Below w.heap.size w w' := by
  obtain ⟨E, hE⟩ : ∃ z, (le es).toNat = z := ⟨_, rfl⟩
  have hE2 : E < 2 ^ 256 := by
    have h := le_bd es hb
    rw [hl] at h
    have h2 : (256 : Int) ^ 32 = 115792089237316195423570985008687907853269984665640564039457584007913129639936 := by decide
    rw [h2] at h
    rw [← hE]
    have h3 : (2 : Nat) ^ 256 = 115792089237316195423570985008687907853269984665640564039457584007913129639936 := by decide
    omega
  have HP : Hid (pwK A E 0 = 1 ∧ pwK A E 256 = A ^ E % PR) := ⟨pwK_zero A E hE2, pwK_all A E⟩
  obtain ⟨BA, hBA⟩ : ∃ z, leB 32 A = z := ⟨_, rfl⟩
  have HL : Hid (es.length = 32 ∧ Bytes es ∧ (u8s es).length = 32 ∧ (le es).toNat = E ∧ leB 32 A = BA ∧ (u8s BA).length = 32 ∧ (0 ≤ A ∧ A < PR)) := ⟨hl, hb, by rw [u8s_length, hl], hE, hBA, by rw [← hBA, u8s_length, leB_length], hA⟩
  rw [hE, hBA]
  clear hA hl hb hE hE2 hBA
  go_enter Try.func24, Try.ntmps24
  go_wp2_with (first | (refine wpList_box_new rfl 29 (.tmp 0) rfl (u8s BA) rfl ?_; intro x1 z1 s1 l1) | (refine wpList_box_new rfl 22 (.tmp 1) rfl (u8s es) rfl ?_; intro x2 z2 s2 l2; rw [s1] at z2) | ((with_reducible show wpList _ _ _ _ _ x2); refine wpList_alloc_new rfl 29 rfl 32 _ zeroNum ?_; intro x3 z3 s3 l3; rw [s2, s1] at z3) | (go_at_call 16; refine (rsmall_any 1 ⟨by decide, by decide⟩ _).mono ?_; rintro e x4 ⟨rfl, l4⟩) | ((with_reducible show wpList _ _ _ _ _ x4); refine wpList_alloc_new rfl 29 rfl 32 _ zeroNum ?_; intro x5 z5 s5 l5) | ((with_reducible show wpList _ _ _ _ _ x5); refine wpList_store_blk rfl 29 29 _ _ rfl _ rfl _ (u8s (leB 32 1)) rfl z5 rfl (by rw [u8s_length, leB_length]; exact sizeNum) (u8s_one _) ?_; intro x6 b6 s6 k6))
  obtain ⟨G, hG⟩ : ∃ z, x4.heap.size = z := ⟨_, rfl⟩
  rw [hG] at b6 k6
  try rw [hG]
  have WW : Hid (Below w.heap.size w x6 ∧ Blk x6 w.heap.size 29 (u8s BA) ∧ Blk x6 (w.heap.size + 1) 22 (u8s es) ∧ Blk x6 (w.heap.size + 1 + 1) 29 (u8s (List.replicate 32 0)) ∧ Blk x6 G 29 (u8s (leB 32 1)) ∧ w.heap.size + 3 ≤ G) := by
    have q := l4.size
    exact ⟨below_kept (below_chain (below_chain (below_chain (below_chain l1 l2 (by omega)) l3 (by omega)) l4 (by omega)) l5 (by omega)) k6 (by omega) (fun j hj => by omega), ((((z1.later l2 (by omega)).later l3 (by omega)).later l4 (by omega)).later l5 (by omega)).kept k6 (by omega), (((z2.later l3 (by omega)).later l4 (by omega)).later l5 (by omega)).kept k6 (by omega), ((z3.later l4 (by omega)).later l5 (by omega)).kept k6 (by omega), b6, by omega⟩
  clear z1 s1 l1 z2 s2 l2 z3 s3 l3 l4 z5 s5 l5 b6 s6 k6 hG
  go_loopw [6] (fun i wr => ∃ (k : Nat), k ≤ 256 ∧ i = .int .i64 ((k : Int) - 1) ∧ Blk wr G 29 (u8s (leB 32 (pwK A E (256 - k)))) ∧ Kept (fun b => b = G) x6 wr) (fun i _ => (intOf i + 1).toNat)
  case atStart => exact ⟨256, by omega, rfl, by rw [Nat.sub_self, HP.out.1]; exact WW.out.2.2.2.2.1, Kept.refl _ _⟩
  case round =>
    obtain ⟨k, hk, rfl, hblk, hkp⟩ := hrel
    by_cases h0 : k = 0
    · subst h0
      have i1 : ¬ (0 : Int) ≤ ((0 : Nat) : Int) - 1 := by omega
      rw [show 256 - 0 = 256 from rfl, HP.out.2] at hblk
      obtain ⟨R, hR⟩ : ∃ z, leB 32 (A ^ E % PR) = z := ⟨_, rfl⟩
      have HR : Hid ((u8s R).length = 32 ∧ leB 32 (A ^ E % PR) = R) := ⟨by rw [← hR, u8s_length, leB_length], hR⟩
      rw [hR] at hblk
      have X1 : Hid (Blk wr G 29 (u8s R) ∧ Blk wr (w.heap.size + 1 + 1) 29 (u8s (List.replicate 32 0)) ∧ Below w.heap.size w wr) := ⟨hblk, WW.out.2.2.2.1.kept hkp (by have := WW.out.2.2.2.2.2; omega), below_kept WW.out.1 hkp WW.out.1.size (fun j hj => by have := WW.out.2.2.2.2.2; omega)⟩
      clear hblk hkp hR
      go_wp2_with (first | (refine wpList_load_blk rfl 29 _ rfl G rfl (u8s R) _ X1.out.1 Try.underlying29 rfl (by rw [HR.out.1]; exact sizeNum) ?_) | (refine wpList_store_blk rfl 29 29 _ _ rfl _ rfl _ (u8s R) rfl X1.out.2.1 (by rw [HR.out.1]; rfl) (by rw [HR.out.1]; exact sizeNum) (u8s_one _) ?_; intro w6 b6 s6 k6))
      exact ret_blk rfl (w.heap.size + 1 + 1) (u8s R) _ rfl b6 Try.underlying29 rfl (by rw [HR.out.1]; exact sizeNum) rfl ⟨by rw [HR.out.2], below_kept X1.out.2.2 k6 X1.out.2.2.size (fun j hj => by omega)⟩
    · obtain ⟨n, rfl⟩ : ∃ n, k = n + 1 := ⟨k - 1, by omega⟩
      have hn : n < 256 := by omega
      rw [show (((n + 1 : Nat) : Int) - 1) = (n : Int) by omega]
      have i1 : (0 : Int) ≤ (n : Int) := by omega
      have jd : IntKind.i64.wrap ((n : Int) - 1) = (n : Int) - 1 := wi64 _ (by omega)
      obtain ⟨q, hq⟩ : ∃ q : Nat, n / 8 = q := ⟨_, rfl⟩
      obtain ⟨f, hf⟩ : ∃ f : Nat, n % 8 = f := ⟨_, rfl⟩
      have hq32 : q < 32 := by omega
      have hf8 : f < 8 := by omega
      have hbit := bit_of es HL.out.1 HL.out.2.1 n hn
      rw [hq, hf, HL.out.2.2.2.1] at hbit
      have hX : 0 ≤ es.getD q 0 ∧ es.getD q 0 < 256 := by have := HL.out.2.1.at q (by rw [HL.out.1]; omega); omega
      have cE := u8s_cell (WW.out.2.2.1.kept hkp (by have := WW.out.2.2.2.2.2; omega)) q (by rw [HL.out.1]; omega)
      obtain ⟨X, hXX⟩ : ∃ z, es.getD q 0 = z := ⟨_, rfl⟩
      rw [hXX] at hbit hX cE
      have hD : 0 ≤ X / 2 ^ f ∧ X / 2 ^ f < 256 := by
        have : f = 0 ∨ f = 1 ∨ f = 2 ∨ f = 3 ∨ f = 4 ∨ f = 5 ∨ f = 6 ∨ f = 7 := by omega
        rcases this with rfl | rfl | rfl | rfl | rfl | rfl | rfl | rfl <;> simp only [Int.reducePow] <;> omega
      have j2 : Int.tdiv (n : Int) 8 = (q : Int) := by rw [Int.tdiv_eq_ediv_of_nonneg (by omega)]; omega
      have j3 : Int.tmod (n : Int) 8 = (f : Int) := by rw [Int.tmod_eq_emod_of_nonneg (by omega)]; omega
      have j4 : (q : Int) < 32 := by omega
      have j5 : (0 : Int) ≤ (q : Int) := by omega
      have j7 : (0 : Int) ≤ (f : Int) := by omega
      have j8 : Int.tmod (X / 2 ^ f) 2 = X / 2 ^ f % 2 := Int.tmod_eq_emod_of_nonneg hD.1
      have hsucc := pwK_succ A E (256 - (n + 1)) (by omega)
      rw [show 255 - (256 - (n + 1)) = n by omega, show 256 - (n + 1) + 1 = 256 - n by omega, ← hbit] at hsucc
      have hPb : 0 ≤ pwK A E (256 - (n + 1)) ∧ pwK A E (256 - (n + 1)) < PR := mod_bd _
      obtain ⟨P, hP⟩ : ∃ z, pwK A E (256 - (n + 1)) = z := ⟨_, rfl⟩
      rw [hP] at hsucc hPb hblk
      have hm1 := rmul_num P P hPb hPb
      have hm2 := rmul_num ((P * P) % PR) A (mod_bd _) HL.out.2.2.2.2.2.2
      obtain ⟨L1, hL1⟩ : ∃ z, leB 32 P = z := ⟨_, rfl⟩
      obtain ⟨L2, hL2⟩ : ∃ z, leB 32 ((P * P) % PR) = z := ⟨_, rfl⟩
      obtain ⟨L3, hL3⟩ : ∃ z, leB 32 ((P * P) % PR * A % PR) = z := ⟨_, rfl⟩
      rw [hL1] at hblk
      rw [hL1, hL2] at hm1
      rw [hL2, hL3, HL.out.2.2.2.2.1] at hm2
      have HM : Hid ((∀ w, Calls Try.prog 46 #[.agg (u8s L1).toArray, .agg (u8s L1).toArray] w fun e w' => e = .returned (.agg (u8s L2).toArray) ∧ Below w.heap.size w w') ∧ (∀ w, Calls Try.prog 46 #[.agg (u8s L2).toArray, .agg (u8s BA).toArray] w fun e w' => e = .returned (.agg (u8s L3).toArray) ∧ Below w.heap.size w w')) := ⟨hm1, hm2⟩
      have HN : Hid ((u8s L1).length = 32 ∧ (u8s L2).length = 32 ∧ (u8s L3).length = 32 ∧ leB 32 ((P * P) % PR) = L2 ∧ leB 32 ((P * P) % PR * A % PR) = L3) := ⟨by rw [← hL1, u8s_length, leB_length], by rw [← hL2, u8s_length, leB_length], by rw [← hL3, u8s_length, leB_length], hL2, hL3⟩
      have HS : Hid ((bif (X / 2 ^ f % 2 == 1) then ((P * P) % PR * A) % PR else (P * P) % PR) = pwK A E (256 - n)) := hsucc
      have HK : Hid (Blk wr G 29 (u8s L1) ∧ Kept (fun b => b = G) x6 wr) := ⟨hblk, hkp⟩
      have hgE : w.heap.size + 1 ≠ G := by have := WW.out.2.2.2.2.2; omega
      have CE : Hid (∀ W, Kept (fun b => b = G) x6 W → W.cell? ⟨w.heap.size + 1, q, none⟩ = some (.int .u8 X) ∧ Blk W w.heap.size 29 (u8s BA)) := fun W hW => by
        have h := u8s_cell (WW.out.2.2.1.kept hW (by have := WW.out.2.2.2.2.2; omega)) q (by rw [HL.out.1]; omega)
        rw [hXX] at h
        exact ⟨h, WW.out.2.1.kept hW (by have := WW.out.2.2.2.2.2; omega)⟩
      clear hq hf hbit hX hXX hsucc hPb hP hm1 hm2 hL1 hL2 hL3 hblk hkp cE h0 hk
      by_cases hb1 : X / 2 ^ f % 2 = 1
      · have HZ : Hid (L3 = leB 32 (pwK A E (256 - n))) := by
          show L3 = _
          have h := HS.out
          rw [show (X / 2 ^ f % 2 == 1) = true by simpa using hb1] at h
          rw [← h, ← HN.out.2.2.2.2]; rfl
        go_wp2_with (first | ((with_reducible show wpList _ _ _ (({ dst := some 12, op := _, type := _, pos := _, after := _, guard := _ } : Oper) :: _) _ _); refine wpList_load_blk rfl 29 (.tmp 5) rfl G rfl (u8s L1) _ HK.out.1 Try.underlying29 rfl (by rw [HN.out.1]; exact sizeNum) ?_) | ((with_reducible show wpList _ _ _ (({ dst := some 13, op := _, type := _, pos := _, after := _, guard := _ } : Oper) :: _) _ _); refine wpList_load_blk rfl 29 (.tmp 5) rfl G rfl (u8s L1) _ HK.out.1 Try.underlying29 rfl (by rw [HN.out.1]; exact sizeNum) ?_) | ((with_reducible show Calls _ 46 #[.agg (u8s L1).toArray, _] _ _); refine (HM.out.1 _).mono ?_; rintro e y1 ⟨rfl, l1⟩) | ((with_reducible show wpList _ _ _ _ _ y1); refine wpList_store_blk rfl 29 29 _ _ rfl _ rfl _ (u8s L2) rfl (HK.out.1.later l1 HK.out.1.lt) (by rw [HN.out.2.1, HN.out.1]) (by rw [HN.out.2.1]; exact sizeNum) (u8s_one _) ?_; intro y2 b2 s2 k2; have K2 : Hid (Kept (fun b => b = G) x6 y2) := HK.out.2.trans ((Kept.new _ l1).trans k2); have cE := (CE.out y2 K2.out).1) | ((with_reducible show wpList _ _ _ (({ dst := some 24, op := _, type := _, pos := _, after := _, guard := _ } : Oper) :: _) _ _); refine wpList_load_blk rfl 29 (.tmp 5) rfl G rfl (u8s L2) _ b2 Try.underlying29 rfl (by rw [HN.out.2.1]; exact sizeNum) ?_) | ((with_reducible show wpList _ _ _ (({ dst := some 25, op := _, type := _, pos := _, after := _, guard := _ } : Oper) :: _) _ _); refine wpList_load_blk rfl 29 (.tmp 2) rfl w.heap.size rfl (u8s BA) _ (CE.out y2 K2.out).2 Try.underlying29 rfl (by rw [HL.out.2.2.2.2.2.1]; exact sizeNum) ?_) | ((with_reducible show Calls _ 46 #[.agg (u8s L2).toArray, _] _ _); refine (HM.out.2 _).mono ?_; rintro e y3 ⟨rfl, l3⟩) | ((with_reducible show wpList _ _ _ _ _ y3); refine wpList_store_blk rfl 29 29 _ _ rfl _ rfl _ (u8s L3) rfl (b2.later l3 b2.lt) (by rw [HN.out.2.2.1, HN.out.2.1]) (by rw [HN.out.2.2.1]; exact sizeNum) (u8s_one _) ?_; intro y4 b4 s4 k4))
        go_roundw
        case rel => exact ⟨n, by omega, by go_num, by rw [← HZ.out]; exact b4, K2.out.trans ((Kept.new _ l3).trans k4)⟩
        case measure => simp [intOf]
      · have HZ : Hid (L2 = leB 32 (pwK A E (256 - n))) := by
          show L2 = _
          have h := HS.out
          rw [show (X / 2 ^ f % 2 == 1) = false by simpa using hb1] at h
          rw [← h, ← HN.out.2.2.2.1]; rfl
        go_wp2_with (first | ((with_reducible show wpList _ _ _ (({ dst := some 12, op := _, type := _, pos := _, after := _, guard := _ } : Oper) :: _) _ _); refine wpList_load_blk rfl 29 (.tmp 5) rfl G rfl (u8s L1) _ HK.out.1 Try.underlying29 rfl (by rw [HN.out.1]; exact sizeNum) ?_) | ((with_reducible show wpList _ _ _ (({ dst := some 13, op := _, type := _, pos := _, after := _, guard := _ } : Oper) :: _) _ _); refine wpList_load_blk rfl 29 (.tmp 5) rfl G rfl (u8s L1) _ HK.out.1 Try.underlying29 rfl (by rw [HN.out.1]; exact sizeNum) ?_) | ((with_reducible show Calls _ 46 #[.agg (u8s L1).toArray, _] _ _); refine (HM.out.1 _).mono ?_; rintro e y1 ⟨rfl, l1⟩) | ((with_reducible show wpList _ _ _ _ _ y1); refine wpList_store_blk rfl 29 29 _ _ rfl _ rfl _ (u8s L2) rfl (HK.out.1.later l1 HK.out.1.lt) (by rw [HN.out.2.1, HN.out.1]) (by rw [HN.out.2.1]; exact sizeNum) (u8s_one _) ?_; intro y2 b2 s2 k2; have K2 : Hid (Kept (fun b => b = G) x6 y2) := HK.out.2.trans ((Kept.new _ l1).trans k2); have cE := (CE.out y2 K2.out).1))
        go_roundw
        case rel => exact ⟨n, by omega, by go_num, by rw [← HZ.out]; exact b2, K2.out⟩
        case measure => simp [intOf]
theorem prime2_le : (le (primeL 2)).toNat = p2 := by decide +kernel
set_option maxRecDepth 20000 in
set_option maxHeartbeats 2000000 in
theorem rinvert_any (A : Int) (hA : 0 ≤ A ∧ A < PR) (w : World) :
    Calls Try.prog 26 #[.agg (u8s (leB 32 A)).toArray] w fun e w' => e = .returned (.agg (u8s (leB 32 (inv A))).toArray) ∧ Below w.heap.size w w' := by
  have hpw : ∀ w, Calls Try.prog 24 #[.agg (u8s (leB 32 A)).toArray, .agg (u8s (primeL 2)).toArray] w fun e w' => e = .returned (.agg (u8s (leB 32 (inv A))).toArray) ∧ Below w.heap.size w w' := fun w => by
    have h := rpower_any A (primeL 2) hA (primeL_length 2) (primeL_bytes 2 (by decide)) w
    rw [prime2_le] at h
    exact h
  obtain ⟨BA, hBA⟩ : ∃ z, leB 32 A = z := ⟨_, rfl⟩
  obtain ⟨R, hR⟩ : ∃ z, leB 32 (inv A) = z := ⟨_, rfl⟩
  have HN : Hid ((u8s BA).length = 32 ∧ (u8s R).length = 32) := ⟨by rw [← hBA, u8s_length, leB_length], by rw [← hR, u8s_length, leB_length]⟩
  rw [hBA, hR] at hpw
  rw [hBA, hR]
  have HPW : Hid (∀ w, Calls Try.prog 24 #[.agg (u8s BA).toArray, .agg (u8s (primeL 2)).toArray] w fun e w' => e = .returned (.agg (u8s R).toArray) ∧ Below w.heap.size w w') := hpw
  have HPR : Hid (∀ w, Calls Try.prog 50 #[.int .u8 2] w fun e w' => e = .returned (.agg (u8s (primeL 2)).toArray) ∧ Below w.heap.size w w') := rprime_any 2 (by decide)
  clear hpw hBA hR hA
  go_enter Try.func26, Try.ntmps26
  go_wp2_with (first | (refine wpList_box_new rfl 29 (.tmp 0) rfl (u8s BA) rfl ?_; intro x1 z1 s1 l1) | (refine wpList_alloc_new rfl 29 rfl 32 _ zeroNum ?_; intro x2 z2 s2 l2; rw [s1] at z2; rw [s1]))
  have W0 : Hid (Below w.heap.size w x2 ∧ Blk x2 w.heap.size 29 (u8s BA) ∧ Blk x2 (w.heap.size + 1) 29 (u8s (List.replicate 32 0))) := ⟨below_chain l1 l2 (by omega), z1.later l2 (by omega), z2⟩
  clear z1 s1 l1 z2 s2 l2
  try simp only [Act.put, List.setIfInBounds_toArray, List.set_cons_zero, List.set_cons_succ]
  refine region_invT ((.val (.agg (u8s BA).toArray)) :: (.val (.agg (u8s (primeL 2)).toArray)) :: (.val (.agg (u8s R).toArray)) :: []) (by kernel_rfl) (by kernel_rfl) (by kernel_rfl) ?_ ?_
  · refine Steps'.cons ?_ (Steps'.cons ?_ (Steps'.cons ?_ (Steps'.one _ _ _ _ _ _ _)))
    · intro ax wx hb hs hd
      have h1 : ax.tmps.getD 1 undef = (.pointer (some ⟨w.heap.size, 0, none⟩)) := hs 1 (by kernel_rfl)
      exact Does.load 29 (.tmp 1) rfl w.heap.size 0 h1 (u8s BA) _ ((W0.out.2.1.later hb W0.out.2.1.lt).whole) Try.underlying29 rfl (by rw [HN.out.1]; exact sizeNum)
    · intro ax wx hb hs hd
      refine Does.call 50 #[.int .u8 2] (by clear hs hd; go_simp) ?_
      refine (HPR.out _).mono ?_
      rintro z w' ⟨rfl, l⟩
      exact ⟨_, rfl, rfl, l⟩
    · intro ax wx hb hs hd
      have h3 : ax.tmps.getD 3 undef = (.agg (u8s BA).toArray) := hd 0 3 rfl (by kernel_rfl) (by decide)
      have h4 : ax.tmps.getD 4 undef = (.agg (u8s (primeL 2)).toArray) := hd 1 4 rfl (by kernel_rfl) (by decide)
      refine Does.call 24 #[.agg (u8s BA).toArray, .agg (u8s (primeL 2)).toArray] (by clear hs hd; go_simp) ?_
      refine (HPW.out _).mono ?_
      rintro z w' ⟨rfl, l⟩
      exact ⟨_, rfl, rfl, l⟩
  · intro wx hb
    refine @Ends.val _ _ _ _ _ _ _ _ _ (.agg (u8s BA).toArray) rfl ?_
    refine @Ends.val _ _ _ _ _ _ _ _ _ (.agg (u8s (primeL 2)).toArray) rfl ?_
    refine @Ends.val _ _ _ _ _ _ _ _ _ (.agg (u8s R).toArray) rfl ?_
    refine @Ends.one _ _ _ _ _ _ _ ?_
    simp only [Act.put, List.setIfInBounds_toArray, List.set_cons_zero, List.set_cons_succ]
    refine last_store 29 (.tmp 2) (.tmp 5) rfl rfl (w.heap.size + 1) rfl 29 _ (u8s R) rfl (W0.out.2.2.later hb W0.out.2.2.lt) (by rw [HN.out.2]; rfl) (by rw [HN.out.2]; exact sizeNum) (u8s_one _) ?_
    intro y b1 s1 k1
    have LB := below_kept (below_chain W0.out.1 hb W0.out.1.size) k1 (Nat.le_trans W0.out.1.size hb.size) (fun j hj => by omega)
    go_wp2_with fail
    exact ret_blk rfl (w.heap.size + 1) (u8s R) _ rfl b1 Try.underlying29 rfl (by rw [HN.out.2]; exact sizeNum) rfl ⟨rfl, LB⟩
end Go.Proofs.Ytfeeikkfjbdkiaa
