/- Layer field: Power. -/
import Derived.Test.YtnifolefhelmcaaFBits
import Derived.Test.YtnifolefhelmcaaFPick
import Derived.Test.YtnifolefhelmcaaFSquare
import Derived.Test.YtnifolefhelmcaaFMul
import Derived.Test.YtnifolefhelmcaaFRing
import Derived.Test.YtnifolefhelmcaaFAwake
import Derived.Test.YtnifolefhelmcaaRInvP
import Derived.Test.YtnifolefhelmcaaSHeld
namespace Go.Proofs.Ytnifolefhelmcaa
open Go.RowKit
set_option linter.unusedVariables false
set_option linter.unusedSimpArgs false

/-- The power by the first k bits of 256, the highest first. -/
def pwK (x : Int) (E k : Nat) : Int := x ^ (E / 2 ^ (256 - k)) % PR
theorem pwK_zero (x : Int) (E : Nat) (h : E < 2 ^ 256) : pwK x E 0 = 1 := by
  rw [pwK, Nat.sub_zero, Nat.div_eq_of_lt h, Int.pow_zero]; rfl
theorem pwK_all (x : Int) (E : Nat) : pwK x E 256 = x ^ E % PR := by
  rw [pwK, Nat.sub_self, Nat.pow_zero, Nat.div_one]
theorem pwK_succ (x : Int) (E k : Nat) (hk : k < 256) : (bif (((E / 2 ^ (255 - k) % 2 : Nat) : Int) == 1) then ((pwK x E k * pwK x E k) % PR * x) % PR else (pwK x E k * pwK x E k) % PR) = pwK x E (k + 1) := by
  have e1 : 2 ^ (256 - k) = 2 ^ (255 - k) * 2 := by rw [← Nat.pow_succ]; congr 1; omega
  have e2 : 256 - (k + 1) = 255 - k := by omega
  have e3 : (pwK x E k * pwK x E k) % PR = x ^ (2 * (E / 2 ^ (256 - k))) % PR := by
    rw [pwK, pm_l, pm_r, ← Int.pow_add]; congr 2; omega
  have e4 : E / 2 ^ (256 - k) = E / 2 ^ (255 - k) / 2 := by rw [e1, Nat.div_div_eq_div_mul]
  rw [e3, e4, pwK, e2]
  generalize E / 2 ^ (255 - k) = m
  rcases Nat.mod_two_eq_zero_or_one m with h | h
  · rw [h]
    show x ^ (2 * (m / 2)) % PR = _
    congr 2; omega
  · rw [h]
    show (x ^ (2 * (m / 2)) % PR * x) % PR = _
    rw [pm_l, ← Int.pow_succ]
    congr 2; omega
/-- The function that tells the bits. -/
def isClo (b : Nat) (es : List Int) (v : Value) (w : World) : Prop := ∃ gL gE, v = .func (.func 129) #[] #[.pointer (some ⟨gL, 0, none⟩), .pointer (some ⟨gE, 0, none⟩)] ∧ b ≤ gL ∧ Blk w gL 3 [.int .i64 256] ∧ Blk w gE 29 (u8s es)
theorem isClo_later (b : Nat) (es : List Int) : ∀ v w w', Below w.heap.size w w' → isClo b es v w → isClo b es v w' := fun _ _ _ hb ⟨gL, gE, h1, h0, h2, h3⟩ => ⟨gL, gE, h1, h0, h2.later hb h2.lt, h3.later hb h3.lt⟩
theorem blk_ne {w : World} {g h : Nat} {t u : TypeId} {vs us : List Value} (a : Blk w g t vs) (b : Blk w h u us) (hn : t ≠ u) : g ≠ h := fun e => by
  subst e
  unfold Blk at a b
  rw [a] at b
  injection b with b
  injection b with _ b _
  exact hn b
set_option maxRecDepth 20000 in
set_option maxHeartbeats 2000000 in
theorem fpower_any (l es : List Int) (x : Int) (hl : Fe l x) (he : es.length = 32) (hb : Bytes es) (w : World) :
    Calls Try.prog 86 #[.agg (u64s l).toArray, .agg (u8s es).toArray] w fun e w' => ∃ r, e = .returned (.agg (u64s r).toArray) ∧ Fe r (x ^ (le es).toNat % PR) ∧ Below w.heap.size w w' := by
  obtain ⟨E, hE⟩ : ∃ z, (le es).toNat = z := ⟨_, rfl⟩
  have hE2 : E < 2 ^ 256 := by
    have h := le_bd es hb
    rw [he] at h
    have h2 : (256 : Int) ^ 32 = 115792089237316195423570985008687907853269984665640564039457584007913129639936 := by decide
    rw [h2] at h
    rw [← hE]
    have h3 : (2 : Nat) ^ 256 = 115792089237316195423570985008687907853269984665640564039457584007913129639936 := by decide
    omega
  have HP : Hid (pwK x E 0 = 1 ∧ pwK x E 256 = x ^ E % PR) := ⟨pwK_zero x E hE2, pwK_all x E⟩
  have HL : Hid (Fe l x ∧ (u64s l).length = 5 ∧ es.length = 32 ∧ Bytes es ∧ (u8s es).length = 32 ∧ (le es).toNat = E) := ⟨hl, by rw [u64s_length, hl.len], he, hb, by rw [u8s_length, he], hE⟩
  rw [hE]
  clear hl he hb hE hE2
  go_enter Try.func86, Try.ntmps86
  go_wp2_with (first | (refine wpList_box_new rfl 27 (.tmp 0) rfl (u64s l) rfl ?_; intro x1 z1 s1 l1) | (refine wpList_box_new rfl 29 (.tmp 1) rfl (u8s es) rfl ?_; intro x2 z2 s2 l2) | (refine wpList_alloc_new rfl 27 rfl 5 _ zeroElem ?_; intro x3 z3 s3 l3))
  try simp only [Act.put, List.setIfInBounds_toArray, List.set_cons_zero, List.set_cons_succ]
  have e2 : x1.heap.size = w.heap.size + 1 := s1
  have e3 : x2.heap.size = w.heap.size + 1 + 1 := by omega
  rw [e2] at z2
  rw [e3] at z3
  try rw [e2]
  try rw [e3]
  have W0 : Hid (Below w.heap.size w x3 ∧ Blk x3 w.heap.size 27 (u64s l) ∧ Blk x3 (w.heap.size + 1) 29 (u8s es) ∧ Blk x3 (w.heap.size + 1 + 1) 27 (u64s [0, 0, 0, 0, 0]) ∧ w.heap.size + 3 = x3.heap.size) := ⟨below_chain (below_chain l1 l2 (by omega)) l3 (by omega), (z1.later l2 (by omega)).later l3 (by omega), z2.later l3 (by omega), z3, by omega⟩
  clear z1 s1 l1 z2 s2 l2 z3 s3 l3 e2 e3
  refine region_invP 4 ((.any (isF 1) (isF_later 1)) :: (.val (.agg (u8s es).toArray)) :: (.any (isClo (w.heap.size + 3) es) (isClo_later _ es)) :: (.blk 27 (u64s [0, 0, 0, 0, 0])) :: []) (by kernel_rfl) (by kernel_rfl) (by kernel_rfl) [5] ⟨.inl rfl, .inl rfl, .inl rfl, .inr ⟨27, _, 5, rfl, rfl, zeroElem⟩, trivial⟩ (by kernel_rfl) ?_ ?_
  · refine Steps'.cons ?_ (Steps'.cons ?_ (Steps'.cons ?_ (Steps'.cons ?_ (Steps'.one _ _ _ _ _ _ _))))
    · intro ax wx hb hs hd
      refine Does.call 25 #[.int .u64 1] (by clear hs hd; go_simp) ?_
      refine (small_any 1 (by decide) (by decide) _).mono ?_
      rintro z w' ⟨r, rfl, fr, l⟩
      exact ⟨_, rfl, ⟨r, rfl, fr⟩, l⟩
    · intro ax wx hb hs hd
      have h3 : ax.tmps.getD 3 undef = (.pointer (some ⟨w.heap.size + 1, 0, none⟩)) := hs 3 (by kernel_rfl)
      exact Does.load 29 (.tmp 3) rfl (w.heap.size + 1) 0 h3 (u8s es) _ ((W0.out.2.2.1.later hb W0.out.2.2.1.lt).whole) Try.underlying29 rfl (by rw [HL.out.2.2.2.2.1]; exact size32)
    · intro ax wx hb hs hd
      have h8 : ax.tmps.getD 8 undef = (.agg (u8s es).toArray) := hd 1 8 rfl (by kernel_rfl) (by decide)
      refine Does.call 116 #[.agg (u8s es).toArray] (by clear hs hd; go_simp) ?_
      refine (bits_any es HL.out.2.2.1 _).mono ?_
      rintro z w' ⟨gL, gE, rfl, q1, q2, q3, q4, l⟩
      exact ⟨_, rfl, ⟨gL, gE, rfl, by have := hb.size; have := W0.out.2.2.2.2; omega, q3, q4⟩, l⟩
    · intro ax wx hb hs hd
      exact Does.alloc 27 rfl 5 _ zeroElem hb.size
  · intro wx hb
    refine @EndsP.any _ _ _ _ _ _ _ _ (isF 1) (isF_later 1) rfl ?_
    intro v0 p0
    refine @EndsP.val _ _ _ _ _ _ _ _ (.agg (u8s es).toArray) rfl ?_
    refine @EndsP.any _ _ _ _ _ _ _ _ (isClo (w.heap.size + 3) es) (isClo_later _ es) rfl ?_
    intro v2 p2
    refine @EndsP.blk _ _ _ _ _ _ _ _ 27 (u64s [0, 0, 0, 0, 0]) rfl ?_
    intro g5 hg5 bg5
    intro hD n hn
    obtain ⟨m, rfl⟩ : ∃ m, n = m + 2 := ⟨n - 2, by have h3 : 2 ≤ n := hn; omega⟩
    obtain ⟨r0, rfl, f0⟩ := p0
    obtain ⟨gL, gE, rfl, hgL, bL, bE⟩ := p2
    clear hD hn
    have nLg : gL ≠ g5 := blk_ne bL bg5 (by decide)
    have nEg : gE ≠ g5 := blk_ne bE bg5 (by decide)
    have nEL : gE ≠ gL := blk_ne bE bL (by decide)
    have nr : Hid ((u64s r0).length = 5) := by rw [u64s_length, f0.len]; rfl
    simp only [Act.put, List.setIfInBounds_toArray, List.set_cons_zero, List.set_cons_succ]
    refine wpAny_ready (rs := [4]) (by kernel_rfl) (by simp) (AllReady.cons rfl (fun K hK => ?_) AllReady.nil)
    rw [if_pos (by rfl)]
    refine last_store 27 (.tmp 5) (.tmp 7) rfl rfl g5 rfl 27 _ (u64s r0) rfl bg5 (by rw [nr.out]; rfl) (by rw [nr.out]; exact sizeElem) (u64s_one _) ?_
    intro w1 b1 s1 k1
    refine hK _ _ ?_
    refine wpAny_ready (rs := [5]) (by kernel_rfl) (by simp) (AllReady.cons rfl (fun K hK => ?_) AllReady.nil)
    rw [if_pos (by rfl)]
    refine last_assign (.tmp 9) rfl (some 6) rfl (.func (.func 129) #[] #[.pointer (some ⟨gL, 0, none⟩), .pointer (some ⟨gE, 0, none⟩)]) rfl ?_
    refine hK _ _ ?_
    refine wpAny_done (by kernel_rfl) (NoPanic.normal ?_) _
    simp only [Act.put, List.setIfInBounds_toArray, List.set_cons_zero, List.set_cons_succ]
    have W1 : Hid (Below w.heap.size w w1 ∧ Blk w1 w.heap.size 27 (u64s l) ∧ Blk w1 (w.heap.size + 1 + 1) 27 (u64s [0, 0, 0, 0, 0]) ∧ Blk w1 gE 29 (u8s es) ∧ Blk w1 gL 3 [.int .i64 256] ∧ Blk w1 g5 27 (u64s r0) ∧ Fe r0 1 ∧ w.heap.size + 3 ≤ g5 ∧ w.heap.size + 3 ≤ gL ∧ gL ≠ g5 ∧ gE ≠ g5 ∧ gE ≠ gL) := by
      have q := W0.out.2.2.2.2
      have q2 := hb.size
      exact ⟨below_kept (below_chain W0.out.1 hb (by omega)) k1 (by omega) (fun j hj => by omega), (W0.out.2.1.later hb W0.out.2.1.lt).kept k1 (by omega), (W0.out.2.2.2.1.later hb W0.out.2.2.2.1.lt).kept k1 (by omega), bE.kept k1 (by omega), bL.kept k1 (by omega), b1, f0, by omega, hgL, nLg, nEg, nEL⟩
    clear W0 hb hg5 bg5 f0 hgL bL bE nLg nEg nEL nr b1 s1 k1 hK
    go_wp2_with fail
    go_loopw [10] (fun i wr => ∃ (k : Nat) (r : List Int), k ≤ 256 ∧ i = .int .i64 k ∧ Blk wr g5 27 (u64s r) ∧ Fe r (pwK x E k) ∧ Blk wr gL 3 [.int .i64 (256 - (k : Int))] ∧ Kept (fun b => b = g5 ∨ b = gL) w1 wr) (fun i _ => 256 - (intOf i).toNat)
    case atStart => exact ⟨0, r0, by omega, rfl, W1.out.2.2.2.2.2.1, by rw [HP.out.1]; exact W1.out.2.2.2.2.2.2.1, W1.out.2.2.2.2.1, Kept.refl _ _⟩
    case round =>
      obtain ⟨k, r, hk, rfl, hblk, hfe, hbl, hkp⟩ := hrel
      by_cases hlt : k < 256
      · have i1 : (k : Int) < 256 := by omega
        have i3 : (0 : Int) ≤ (k : Int) := by omega
        obtain ⟨n, hn⟩ : ∃ n : Nat, 255 - k = n := ⟨_, rfl⟩
        have hn2 : (256 - (k : Int)) = (n : Int) + 1 := by omega
        have HW : Hid (Blk wr g5 27 (u64s r) ∧ Blk wr gL 3 [.int .i64 ((n : Int) + 1)] ∧ Blk wr w.heap.size 27 (u64s l) ∧ Blk wr gE 29 (u8s es) ∧ Kept (fun b => b = g5 ∨ b = gL) w1 wr) := by
          obtain ⟨a1, a2, a3, a4, a5, a6, a7, a8, a9, b1, b2, b3⟩ := W1.out
          rw [hn2] at hbl
          exact ⟨hblk, hbl, a2.kept hkp (by omega), a4.kept hkp (by omega), hkp⟩
        have HF : Hid (Fe r (pwK x E k) ∧ (u64s r).length = 5) := ⟨hfe, by rw [u64s_length, hfe.len]⟩
        have HN : Hid (255 - k = n ∧ n < 256 ∧ k < 256) := ⟨hn, by omega, hlt⟩
        clear hblk hfe hbl hkp hn hn2 hk
        go_wp2_with (first | (refine wpList_load_blk rfl 27 (.tmp 5) rfl g5 rfl (u64s r) _ HW.out.1 Try.underlying27 rfl (by rw [HF.out.2]; exact sizeElem) ?_) | (go_at_call 53; refine (square_any _ _ HF.out.1 _).mono ?_; rintro e y1 ⟨r1, rfl, f1, l1⟩; have HR : Hid (Fe r1 ((pwK x E k * pwK x E k) % PR) ∧ (u64s r1).length = 5) := ⟨f1, by rw [u64s_length, f1.len]⟩; clear f1) | (refine wpList_store_blk rfl 27 27 _ _ rfl _ rfl _ (u64s r1) rfl (HW.out.1.later l1 HW.out.1.lt) (by rw [HR.out.2, HF.out.2]) (by rw [HR.out.2]; exact sizeElem) (u64s_one _) ?_; intro y2 c2 t2 k2))
        have HV : Hid (Blk y2 g5 27 (u64s r1) ∧ Blk y2 gL 3 [.int .i64 ((n : Int) + 1)] ∧ Blk y2 w.heap.size 27 (u64s l) ∧ Blk y2 gE 29 (u8s es) ∧ Kept (fun b => b = g5 ∨ b = gL) w1 y2) := by
          obtain ⟨a1, a2, a3, a4, a5, a6, a7, a8, a9, b1, b2, b3⟩ := W1.out
          exact ⟨c2, (HW.out.2.1.later l1 HW.out.2.1.lt).kept k2 (by omega), (HW.out.2.2.1.later l1 HW.out.2.2.1.lt).kept k2 (by omega), (HW.out.2.2.2.1.later l1 HW.out.2.2.2.1.lt).kept k2 (by omega), HW.out.2.2.2.2.trans ((Kept.new _ l1).trans (k2.mono (fun b hb => Or.inl hb)))⟩
        simp only [Act.put, List.setIfInBounds_toArray, List.set_cons_zero, List.set_cons_succ]
        have S0 : Hid (y2.rangeAt g5 0 (u64s r1) ∧ y2.rangeAt w.heap.size 0 (u64s l)) := ⟨HV.out.1.whole, HV.out.2.2.1.whole⟩
        clear c2 t2 k2 l1 HW
        refine wp_region_noPanic (till_region 7 (fun W => W.rangeAt g5 0 (u64s r1) ∧ W.rangeAt w.heap.size 0 (u64s l)) (by kernel_rfl) ?_)
        change wpTill _ _ _ _ _ _ _ _ y2.drew
        have HS : Hid (y2.drew.rangeAt g5 0 (u64s r1) ∧ y2.drew.rangeAt w.heap.size 0 (u64s l)) := S0.out
        refine tTake 0 (some 14) (.func (.func 129) #[] #[.pointer (some ⟨gL, 0, none⟩), .pointer (some ⟨gE, 0, none⟩)]) rfl rfl (by kernel_rfl) (by kernel_rfl) (by kernel_rfl) (by decide) (fun _ _ _ h => h) (by rfl) (fun _ => by go_simp) HS.out ?_
        simp only [Act.put, List.setIfInBounds_toArray, List.set_cons_zero, List.set_cons_succ]
        refine tLoadMid 2 (some 16) (u64s r1) rfl rfl (by kernel_rfl) (by kernel_rfl) (by kernel_rfl) (by decide) (by kernel_rfl) (by kernel_rfl) (fun _ _ _ h => h) (by rfl) 27 (.tmp 5) rfl g5 0 rfl _ (fun _ h => h.1) Try.underlying27 rfl (by rw [HR.out.2]; exact sizeElem) HS.out ?_
        simp only [Act.put, List.setIfInBounds_toArray, List.set_cons_zero, List.set_cons_succ]
        refine tLoadMid 3 (some 17) (u64s l) rfl rfl (by kernel_rfl) (by kernel_rfl) (by kernel_rfl) (by decide) (by kernel_rfl) (by kernel_rfl) (fun _ _ _ h => h) (by rfl) 27 (.tmp 2) rfl w.heap.size 0 rfl _ (fun _ h => h.2) Try.underlying27 rfl (by rw [HL.out.2.1]; exact sizeElem) HS.out ?_
        simp only [Act.put, List.setIfInBounds_toArray, List.set_cons_zero, List.set_cons_succ]
        refine tLoadMid 5 (some 19) (u64s r1) rfl rfl (by kernel_rfl) (by kernel_rfl) (by kernel_rfl) (by decide) (by kernel_rfl) (by kernel_rfl) (fun _ _ _ h => h) (by rfl) 27 (.tmp 5) rfl g5 0 rfl _ (fun _ h => h.1) Try.underlying27 rfl (by rw [HR.out.2]; exact sizeElem) HS.out ?_
        simp only [Act.put, List.setIfInBounds_toArray, List.set_cons_zero, List.set_cons_succ]
        have hbit := bit_of es HL.out.2.2.1 HL.out.2.2.2.1 n HN.out.2.1
        rw [HL.out.2.2.2.2.2] at hbit
        have hbd : Word (es.getD (n / 8) 0 / 2 ^ (n % 8)) := by
          have hX : 0 ≤ es.getD (n / 8) 0 ∧ es.getD (n / 8) 0 < 256 := by have := HL.out.2.2.2.1.at (n / 8) (by rw [HL.out.2.2.1]; have := HN.out.2.1; omega); omega
          have hf : n % 8 < 8 := Nat.mod_lt _ (by decide)
          generalize es.getD (n / 8) 0 = X at hX
          generalize n % 8 = f at hf
          have : f = 0 ∨ f = 1 ∨ f = 2 ∨ f = 3 ∨ f = 4 ∨ f = 5 ∨ f = 6 ∨ f = 7 := by omega
          rcases this with rfl | rfl | rfl | rfl | rfl | rfl | rfl | rfl <;> simp only [Int.reducePow] <;> exact ⟨by omega, by omega⟩
        have hclo := fun W h1 h2 => clo_any es HL.out.2.2.1 HL.out.2.2.2.1 n HN.out.2.1 gL gE W h1 h2
        obtain ⟨T, hT⟩ : ∃ z, es.getD (n / 8) 0 / 2 ^ (n % 8) = z := ⟨_, rfl⟩
        rw [hT] at hbit hbd hclo
        have HT : Hid (T % 2 = ((E / 2 ^ n % 2 : Nat) : Int)) := hbit
        have HCLO : Hid (∀ W, Blk W gL 3 [.int .i64 ((n : Int) + 1)] → Blk W gE 29 (u8s es) → Calls Try.prog 129 #[.pointer (some ⟨gL, 0, none⟩), .pointer (some ⟨gE, 0, none⟩)] W fun e w' => e = .returned (.int .u64 T) ∧ Blk w' gL 3 [.int .i64 (n : Int)] ∧ Kept (fun k => k = gL) W w') := hclo
        clear hbit hclo hT
        refine till_ready 1 (by kernel_rfl) rfl (fun K hK => ?_)
        go_simp
        go_wp2_with (go_at_call 129; refine (HCLO.out _ HV.out.2.1.drew HV.out.2.2.2.1.drew).mono ?_; rintro e y3 ⟨rfl, c3, k3⟩)
        have V3 : Hid (Blk y3 g5 27 (u64s r1) ∧ Blk y3 gL 3 [.int .i64 (n : Int)] ∧ Blk y3 w.heap.size 27 (u64s l) ∧ Kept (fun b => b = g5 ∨ b = gL) w1 y3) := by
          obtain ⟨a1, a2, a3, a4, a5, a6, a7, a8, a9, b1, b2, b3⟩ := W1.out
          have k3' : Kept (fun k => k = gL) y2 y3 := ⟨k3.os, k3.tape, k3.output, k3.size, k3.block⟩
          exact ⟨HV.out.1.kept k3' (by omega), c3, HV.out.2.2.1.kept k3' (by omega), HV.out.2.2.2.2.trans (k3'.mono (fun b hb => Or.inr hb))⟩
        clear c3 k3
        refine ⟨⟨V3.out.1.whole, V3.out.2.2.1.whole⟩, ?_⟩
        refine till_ready 4 (by kernel_rfl) rfl (fun K hK => ?_)
        go_simp
        go_wp2_with (go_at_call 31; refine (mul_any _ _ _ _ HR.out.1 HL.out.1 _).mono ?_; rintro e y4 ⟨r2, rfl, f2, l4⟩)
        have V4 : Hid (Blk y4 g5 27 (u64s r1) ∧ Blk y4 gL 3 [.int .i64 (n : Int)] ∧ Blk y4 w.heap.size 27 (u64s l) ∧ Kept (fun b => b = g5 ∨ b = gL) w1 y4 ∧ Fe r2 (((pwK x E k * pwK x E k) % PR * x) % PR)) := ⟨V3.out.1.later l4 V3.out.1.lt, V3.out.2.1.later l4 V3.out.2.1.lt, V3.out.2.2.1.later l4 V3.out.2.2.1.lt, V3.out.2.2.2.trans (Kept.new _ l4), f2⟩
        clear f2 l4
        refine ⟨⟨V4.out.1.whole, V4.out.2.2.1.whole⟩, ?_⟩
        refine till_ready 6 (by kernel_rfl) rfl (fun K hK => ?_)
        go_simp
        go_wp2_with (go_at_call 28; refine (fpick_any T hbd _ _ _ _ V4.out.2.2.2.2 HR.out.1 _).mono ?_; rintro e y5 ⟨r3, rfl, f3, l5⟩)
        have HG : Hid (Fe r3 (pwK x E (k + 1)) ∧ (u64s r3).length = 5) := by
          have e := pwK_succ x E k HN.out.2.2
          rw [HN.out.1, ← HT.out] at e
          rw [e] at f3
          exact ⟨f3, by rw [u64s_length, f3.len]⟩
        have V5 : Hid (Blk y5 g5 27 (u64s r1) ∧ Blk y5 gL 3 [.int .i64 (n : Int)] ∧ Kept (fun b => b = g5 ∨ b = gL) w1 y5) := ⟨V4.out.1.later l5 V4.out.1.lt, V4.out.2.1.later l5 V4.out.2.1.lt, V4.out.2.2.2.1.trans (Kept.new _ l5)⟩
        refine ⟨⟨V5.out.1.whole, (V4.out.2.2.1.later l5 V4.out.2.2.1.lt).whole⟩, ?_⟩
        clear f3 l5
        refine till_at (by kernel_rfl) ?_
        refine wpAny_ready (rs := [7]) (by kernel_rfl) (by simp) (AllReady.cons rfl (fun K hK => ?_) AllReady.nil)
        rw [if_pos (by rfl)]
        refine last_store 27 (.tmp 5) (.tmp 20) rfl rfl g5 rfl 27 _ (u64s r3) rfl V5.out.1 (by rw [HG.out.2, HR.out.2]) (by rw [HG.out.2]; exact sizeElem) (u64s_one _) ?_
        intro y6 c6 t6 k6
        refine hK _ _ ?_
        refine wpAny_done (by kernel_rfl) (NoPanic.normal ?_) _
        have V6 : Hid (Blk y6 g5 27 (u64s r3) ∧ Blk y6 gL 3 [.int .i64 (n : Int)] ∧ Kept (fun b => b = g5 ∨ b = gL) w1 y6) := by
          obtain ⟨a1, a2, a3, a4, a5, a6, a7, a8, a9, b1, b2, b3⟩ := W1.out
          exact ⟨c6, V5.out.2.1.kept k6 (by omega), V5.out.2.2.trans (k6.mono (fun b hb => Or.inl hb))⟩
        clear c6 t6 k6 V5 V4 V3 HV
        go_wp2_with fail
        go_roundw
        case rel =>
          have hn := HN.out.1
          exact ⟨k + 1, r3, by omega, by go_num, V6.out.1, HG.out.1, by have h := V6.out.2.1; rw [show (n : Int) = 256 - ((k + 1 : Nat) : Int) by omega] at h; exact h, V6.out.2.2⟩
        case measure => simp [intOf]; omega
      · have hk5 : k = 256 := by omega
        have i1 : ¬ ((k : Int) < 256) := by omega
        have HQ : Hid (Blk wr g5 27 (u64s r) ∧ Blk wr (w.heap.size + 1 + 1) 27 (u64s [0, 0, 0, 0, 0]) ∧ Below w.heap.size w wr ∧ Fe r (x ^ E % PR) ∧ r.length = 5) := by
          obtain ⟨a1, a2, a3, a4, a5, a6, a7, a8, a9, b1, b2, b3⟩ := W1.out
          rw [hk5, HP.out.2] at hfe
          exact ⟨hblk, a3.kept hkp (by omega), below_kept a1 hkp a1.size (fun j hj => by omega), hfe, hfe.len⟩
        clear hblk hfe hbl hkp hk5 hlt hk
        go_wp2_with (first | (refine wpList_load_blk rfl 27 (.tmp 5) rfl g5 rfl (u64s r) _ HQ.out.1 Try.underlying27 rfl (by rw [u64s_length, HQ.out.2.2.2.2]; exact sizeElem) ?_) | (refine wpList_store_blk rfl 27 27 _ _ rfl _ rfl _ (u64s r) rfl HQ.out.2.1 (by rw [u64s_length, HQ.out.2.2.2.2]; rfl) (by rw [u64s_length, HQ.out.2.2.2.2]; exact sizeElem) (u64s_one _) ?_; intro y7 b7 s7 k7))
        exact ret_blk rfl (w.heap.size + 1 + 1) (u64s r) _ rfl b7 Try.underlying27 rfl (by rw [u64s_length, HQ.out.2.2.2.2]; exact sizeElem) rfl ⟨r, rfl, HQ.out.2.2.2.1, below_kept HQ.out.2.2.1 k7 HQ.out.2.2.1.size (fun j hj => by omega)⟩
end Go.Proofs.Ytnifolefhelmcaa
