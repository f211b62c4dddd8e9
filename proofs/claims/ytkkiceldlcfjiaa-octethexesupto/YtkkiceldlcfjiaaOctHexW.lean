/- The walk of OctetHexes. -/
import Derived.Test.YtkkiceldlcfjiaaORUnhex
import Derived.Test.YtkkiceldlcfjiaaOApartW
namespace Go.Proofs.Ytkkiceldlcfjiaa.octetHexes
open Go.RowKit
set_option linter.unusedVariables false
set_option linter.unusedSimpArgs false

theorem own_blk {w : World} {base : Nat} {ao : Option Addr} {n cap : Nat} {xs : List Value} (h : w.ownsRow base 5 1 (.slice ao n cap) n xs) (y : Nat) (e : ao = some ⟨y, 0, none⟩) : base ≤ y ∧ y < w.heap.size := by
  subst e
  exact h.lt y rfl
theorem cells2 (w : World) (x y : Value) (t : TypeId) (q : Nat) : ((w.drewN q).alloc (.cells #[x, y] t)).cell? ⟨w.heap.size, 0, none⟩ = some x ∧ ((w.drewN q).alloc (.cells #[x, y] t)).cell? ⟨w.heap.size, 1, none⟩ = some y := by
  have h : ((w.drewN q).alloc (.cells #[x, y] t)).heap[w.heap.size]? = some (.cells [x, y].toArray t (0, 0)) := heap_alloc_new (w.drewN q) _
  exact ⟨by rw [cell_of_row _ _ 0 _ t (0, 0) h]; rfl, by rw [cell_of_row _ _ 1 _ t (0, 0) h]; rfl⟩
set_option maxHeartbeats 2000000 in
set_option maxRecDepth 20000 in
theorem walk (ao : Option Addr) (n c : Nat) (zs : List Int) (s : ByteArray) (w : World) (hx : Seen w ao n zs) (hn : n ≤ 1048576) (hc : ao = none → c = 0) (hs : s.size ≤ 1048576) :
    Calls Try.prog 7 #[.slice ao n c, .string s] w fun en w' => en = .returned (.bool true) ∧ Below w.heap.size w w' := by
  have HC : Hid (ao = none → c = 0) := hc
  have HX : Hid (Seen w ao n zs) := hx
  have HL : Hid (zs.length = n ∧ Bytes zs) := ⟨hx.len, hx.bytes⟩
  obtain ⟨us, hus⟩ : ∃ us, unV s = us := ⟨_, rfl⟩
  obtain ⟨E, hE⟩ : ∃ E, unE s = E := ⟨_, rfl⟩
  have hub : Hid (Bytes us) := by rw [← hus]; exact unV_bytes s
  obtain ⟨L, hL⟩ : ∃ L, us.length = L := ⟨_, rfl⟩
  have HLL : Hid (us.length = L) := hL
  have hLs : L ≤ 1048576 := by rw [← hL, ← hus]; have := unV_len s; omega
  have U1 : Hid (∀ W, _) := fun W => unhex_any s (by omega) W
  have U2 : Hid (∀ W, _) := fun W => runhex_any s (by omega) W
  rw [hus, hE, hL] at U1 U2
  clear hc hL hus hE
  go_enter Try.func7, Try.ntmps7
  go_wp2_with fail
  refine (lent_any ao n c zs w hx HC.out (by omega)).mono ?_
  rintro en w1 ⟨g, cap, rfl, r1, l1, m1, q1, b1⟩
  have z1 := b1.size
  have gz := r1.lt
  have R1 : Hid (RowAt w1 g (zs ++ marks)) := r1
  have B1 : Hid (Below w.heap.size w w1) := b1
  have s1 := Seen.lent (n := n) r1 HL.out.1 HL.out.2 (by omega)
  clear hx r1 b1
  go_wp2_with fail
  have X1 := hex_any (some ⟨g, 0, none⟩) n cap zs w1 s1 (by omega)
  obtain ⟨hh, hhe⟩ : ∃ hh, strOfNums (hexL zs) = hh := ⟨_, rfl⟩
  have HH : Hid (strOfNums (hexL zs) = hh) := hhe
  rw [hhe] at X1
  clear hhe
  refine X1.mono ?_
  rintro en w2 ⟨rfl, b2⟩
  have z2 := b2.size
  have B2 : Hid (Below w.heap.size w w2) := B1.out.trans (b2.mono z1)
  have R2 : Hid (RowAt w2 g (zs ++ marks)) := R1.out.later b2 (Nat.le_refl _)
  have s2 := HX.out.later B2.out (Nat.le_refl _)
  have X2 := rhex_any ao n c zs w2 s2 (by omega)
  rw [HH.out] at X2
  clear s1 b2 X1
  go_wp2_with fail
  refine X2.mono ?_
  rintro en w3 ⟨rfl, b3⟩
  have z3 := b3.size
  have B3 : Hid (Below w.heap.size w w3) := B2.out.trans (b3.mono (by omega))
  have R3 : Hid (RowAt w3 g (zs ++ marks)) := R2.out.later b3 (Nat.le_refl _)
  have s3 := HX.out.later B3.out (Nat.le_refl _)
  clear b3 X2 s2
  go_wp2_with fail
  refine (still_yes g n cap ao c zs w3 R3.out m1 q1 s3).mono ?_
  rintro en w4 ⟨rfl, q4, hw4⟩
  have B4 : Hid (Below w.heap.size w w4) := by rw [hw4]; exact below_dn B3.out _
  have R4 : Hid (RowAt w4 g (zs ++ marks)) := by rw [hw4]; exact R3.out.drewN _
  have z4 : w3.heap.size ≤ w4.heap.size := by rw [hw4]; exact Nat.le_refl _
  clear hw4 s3
  go_wp2_with fail
  refine (U1.out w4).mono ?_
  rintro en w5 ⟨v5, rfl, o5, b5⟩
  obtain ⟨a5, c5, rfl⟩ : ∃ a c, v5 = .slice a L c := by
    obtain ⟨a, c, e, _, _⟩ := own_seen HLL.out hub.out (by omega) o5
    exact ⟨a, c, e⟩
  have z5 := b5.size
  have OW5 : Hid (w5.ownsRow w4.heap.size 5 1 (.slice a5 L c5) L (us.map (Value.int .u8))) := o5
  have BB5 : Hid (Below w4.heap.size w4 w5) := b5
  clear o5 b5
  go_wp2_with fail
  refine (U1.out w5).mono ?_
  rintro en w6 ⟨v6, rfl, o6, b6⟩
  obtain ⟨a6, c6, rfl⟩ : ∃ a c, v6 = .slice a L c := by
    obtain ⟨a, c, e, _, _⟩ := own_seen HLL.out hub.out (by omega) o6
    exact ⟨a, c, e⟩
  have z6 := b6.size
  have OW6 : Hid (w6.ownsRow w5.heap.size 5 1 (.slice a6 L c6) L (us.map (Value.int .u8))) := o6
  have BB6 : Hid (Below w5.heap.size w5 w6) := b6
  clear o6 b6
  go_wp2_with fail
  refine (U2.out w6).mono ?_
  rintro en w7 ⟨v7, rfl, o7, b7⟩
  obtain ⟨a7, c7, rfl⟩ : ∃ a c, v7 = .slice a L c := by
    obtain ⟨a, c, e, _, _⟩ := own_seen HLL.out hub.out (by omega) o7
    exact ⟨a, c, e⟩
  have z7 := b7.size
  have OW7 : Hid (w7.ownsRow w6.heap.size 5 1 (.slice a7 L c7) L (us.map (Value.int .u8))) := o7
  have BB7 : Hid (Below w6.heap.size w6 w7) := b7
  clear o7 b7
  have sO : ∀ {W : World} {base : Nat} {a : Option Addr} {c : Nat}, W.ownsRow base 5 1 (.slice a L c) L (us.map (Value.int .u8)) → Seen W a L us := fun {W base a c} h => by
    obtain ⟨vo', cv', e', s', _⟩ := own_seen HLL.out hub.out (by omega) h
    simp only [Value.slice.injEq] at e'
    rw [e'.1]; exact s'
  have HSO : Hid (∀ (W : World) (base : Nat) (a : Option Addr) (c : Nat), W.ownsRow base 5 1 (.slice a L c) L (us.map (Value.int .u8)) → Seen W a L us) := fun W base a c h => sO h
  have P5 : Hid (w7.ownsRow w4.heap.size 5 1 (.slice a5 L c5) L (us.map (Value.int .u8))) := ownsRow_below (ownsRow_below OW5.out BB6.out) BB7.out
  have P6 : Hid (w7.ownsRow w5.heap.size 5 1 (.slice a6 L c6) L (us.map (Value.int .u8))) := ownsRow_below OW6.out BB7.out
  have B7 : Hid (Below w.heap.size w w7) := ((B4.out.trans (BB5.out.mono (by omega))).trans (BB6.out.mono (by omega))).trans (BB7.out.mono (by omega))
  have R7 : Hid (RowAt w7 g (zs ++ marks)) := ((R4.out.later BB5.out (Nat.le_refl _)).later BB6.out (Nat.le_refl _)).later BB7.out (Nat.le_refl _)
  have t5 := sO P5.out
  have t6 := sO P6.out
  have t7 := sO OW7.out
  clear sO
  go_wp2_with fail
  refine (same_yes a5 a7 L L c5 c7 us w7 t5 t7).mono ?_
  rintro en _ ⟨rfl, q8, rfl⟩
  have t6' := t6.drewN q8
  have t7' := t7.drewN q8
  go_wp2_with fail
  refine (same_yes a6 a7 L L c6 c7 us _ t6' t7').mono ?_
  rintro en _ ⟨rfl, q9, rfl⟩
  rw [World.drewN_drewN]
  generalize q8 + q9 = q
  clear t5 t6 t7 t6' t7'
  obtain ⟨W, hW⟩ : ∃ W, (w7.drewN q).alloc (.cells #[.slice a5 L c5, .slice a6 L c6] 22) = W := ⟨_, rfl⟩
  have zW : W.heap.size = w7.heap.size + 1 := by rw [← hW]; simp [World.alloc]
  have BW : Below w7.heap.size w7 W := by rw [← hW]; exact (below_dn (Below.refl _ _) q).alloc (Nat.le_refl _) _
  have cc := cells2 w7 (.slice a5 L c5) (.slice a6 L c6) 22 q
  rw [hW] at cc
  have k5 : ∀ y, a5 = some ⟨y, 0, none⟩ → w4.heap.size ≤ y ∧ y < w5.heap.size := fun y e => own_blk OW5.out y e
  have k6 : ∀ y, a6 = some ⟨y, 0, none⟩ → w5.heap.size ≤ y ∧ y < w6.heap.size := fun y e => own_blk OW6.out y e
  have k7 : ∀ y, a7 = some ⟨y, 0, none⟩ → w6.heap.size ≤ y ∧ y < w7.heap.size := fun y e => own_blk OW7.out y e
  have LOT : Lot W w7.heap.size 2 (fun j => [a5, a6].getD j none) (fun _ => L) (fun j => [c5, c6].getD j 0) (fun j => [c5, c6].getD j 0) (fun _ => us) := by
    refine ⟨by omega, fun j hj => ?_, fun j hj => ?_, fun j hj => .inl rfl, fun j j' y hj hj' e e' => ?_, fun j y hj e => ?_⟩
    · rcases (by omega : j = 0 ∨ j = 1) with rfl | rfl
      · exact cc.1
      · exact cc.2
    · rcases (by omega : j = 0 ∨ j = 1) with rfl | rfl
      · exact ownsRow_base (ownsRow_below P5.out BW) (Nat.zero_le _)
      · exact ownsRow_base (ownsRow_below P6.out BW) (Nat.zero_le _)
    · rcases (by omega : j = 0 ∨ j = 1) with rfl | rfl <;> rcases (by omega : j' = 0 ∨ j' = 1) with rfl | rfl
      · rfl
      · have h1 := k5 y e; have h2 := k6 y e'; omega
      · have h1 := k6 y e; have h2 := k5 y e'; omega
      · rfl
    · rcases (by omega : j = 0 ∨ j = 1) with rfl | rfl
      · have h1 := k5 y e; omega
      · have h1 := k6 y e; omega
  have LS : ∀ y, LotS 2 (fun j => [a5, a6].getD j none) y → w4.heap.size ≤ y ∧ y < w6.heap.size := fun y ⟨j, hj, e⟩ => by
    rcases (by omega : j = 0 ∨ j = 1) with rfl | rfl
    · have h1 := k5 y e; omega
    · have h1 := k6 y e; omega
  have hap := apart_any w7.heap.size 2 2 _ _ _ _ _ W LOT (by decide) (fun j hj => by show L + 100 ≤ _; omega)
  have RW : Hid (RowAt W g (zs ++ marks)) := R7.out.later BW (Nat.le_refl _)
  have BwW : Hid (Below w.heap.size w W) := B7.out.trans (BW.mono (by omega))
  have P7 : Hid (W.ownsRow w6.heap.size 5 1 (.slice a7 L c7) L (us.map (Value.int .u8))) := ownsRow_below OW7.out BW
  have HK7 : Hid (∀ y, a7 = some ⟨y, 0, none⟩ → w6.heap.size ≤ y ∧ y < w7.heap.size) := k7
  have HLS : Hid (∀ y, LotS 2 (fun j => [a5, a6].getD j none) y → w4.heap.size ≤ y ∧ y < w6.heap.size) := LS
  have g4 : g < w4.heap.size := by omega
  clear cc LOT BW k5 k6 k7 LS
  go_wp2_with fail
  refine hap.mono ?_
  rintro en w8 ⟨rfl, K8⟩
  have z8 := K8.size
  have B8 : Hid (Below w.heap.size w w8) := BwW.out.trans (K8.below (by omega) (fun y hy => by have := HLS.out y hy; omega))
  have R8 : Hid (RowAt w8 g (zs ++ marks)) := RW.out.kept K8 (fun h => by have := HLS.out g h; omega)
  have P8 : Hid (w8.ownsRow w6.heap.size 5 1 (.slice a7 L c7) L (us.map (Value.int .u8))) := own_kept P7.out K8 (fun y hy h => by have := HLS.out y h; have := P7.out.lt y hy; omega)
  clear K8 hap hW
  go_wp2_with fail
  refine (U1.out w8).mono ?_
  rintro en w9 ⟨v9, rfl, o9, b9⟩
  obtain ⟨a9, c9, rfl⟩ : ∃ a c, v9 = .slice a L c := by
    obtain ⟨a, c, e, _, _⟩ := own_seen HLL.out hub.out (by omega) o9
    exact ⟨a, c, e⟩
  have z9 := b9.size
  have OW9 : Hid (w9.ownsRow w8.heap.size 5 1 (.slice a9 L c9) L (us.map (Value.int .u8))) := o9
  have P9 : Hid (w9.ownsRow w6.heap.size 5 1 (.slice a7 L c7) L (us.map (Value.int .u8))) := ownsRow_below P8.out b9
  have B9 : Hid (Below w.heap.size w w9) := B8.out.trans (b9.mono (by omega))
  have R9 : Hid (RowAt w9 g (zs ++ marks)) := R8.out.later b9 (Nat.le_refl _)
  clear o9 b9
  go_wp2
  go_loopw [15] (fun i wr => ∃ (m : Nat) (xs : List Int), m ≤ n ∧ i = .int .i64 m ∧ xs.length = n ∧ Bytes xs ∧ RowAt wr g (xs ++ marks) ∧ Kept (fun y => y = g) w9 wr) (fun i _ => n - (intOf i).toNat)
  case atStart => exact ⟨0, zs, Nat.zero_le _, rfl, HL.out.1, HL.out.2, R9.out, Kept.refl _ _⟩
  case round =>
    obtain ⟨m, xs, hm, rfl, hxl, hxb, hrow, hk⟩ := hrel
    by_cases hlt : m < n
    · have c1 := hrow.lentCell (m := m) (by omega)
      have f1 : wr.frozen? ⟨g, m, none⟩ = false := hrow.frozen m
      have bz := hxb.at m (by omega)
      obtain ⟨Z, hZ⟩ : ∃ Z, xs.getD m 0 = Z := ⟨_, rfl⟩
      rw [hZ] at c1 bz
      have T1 : Hid _ := hrow.lentSet (m := m) (by omega) ((Z + 1) % 256)
      have T2 : Hid _ := hk.setCell (p := ⟨g, m, none⟩) rfl (.int .u8 ((Z + 1) % 256))
      have T3 : Hid (Bytes (xs.set m ((Z + 1) % 256)) ∧ (xs.set m ((Z + 1) % 256)).length = n) := ⟨bytes_set hxb m _ (by omega), by rw [List.length_set]; exact hxl⟩
      have j1 : (0 : Int) ≤ (m : Int) := by omega
      have j2 : (m : Int) < (n : Int) := by omega
      clear hZ hrow hk hxb hxl
      go_wp2
      go_roundw
      case rel => exact ⟨m + 1, _, by omega, by go_num, T3.out.2, T3.out.1, T1.out, T2.out⟩
      case measure => simp [intOf]; omega
    · obtain rfl : m = n := by omega
      obtain ⟨wa, hwa⟩ : ∃ y, y = wr := ⟨_, rfl⟩
      subst hwa
      have za := hk.size
      have i1 : ¬ (m : Int) < (m : Int) := by omega
      have BA : Hid (Below w.heap.size w wa) := B9.out.trans (hk.below (by omega) (fun y hy => by subst hy; exact l1))
      have Q7 : wa.ownsRow w6.heap.size 5 1 (.slice a7 L c7) L (us.map (Value.int .u8)) := own_kept P9.out hk (fun y hy h => by have := P9.out.lt y hy; omega)
      have Q9 : wa.ownsRow w8.heap.size 5 1 (.slice a9 L c9) L (us.map (Value.int .u8)) := own_kept OW9.out hk (fun y hy h => by have := OW9.out.lt y hy; omega)
      have t7 := HSO.out _ _ _ _ Q7
      have t9 := HSO.out _ _ _ _ Q9
      have RA : Hid (RowAt wa g (xs ++ marks)) := hrow
      have HXL : Hid (xs.length = m ∧ Bytes xs) := ⟨hxl, hxb⟩
      clear Q7 Q9 hrow hxl hxb hk
      go_wp2_with fail
      refine (same_yes a9 a7 L L c9 c7 us wa t9 t7).mono ?_
      rintro en wb ⟨rfl, qb, hwb⟩
      have RB : Hid (RowAt wb g (xs ++ marks)) := by rw [hwb]; exact RA.out.drewN _
      have BB : Hid (Below w.heap.size w wb) := by rw [hwb]; exact below_dn BA.out _
      have sb := Seen.lent (n := m) RB.out HXL.out.1 HXL.out.2 (by omega)
      clear hwb t7 t9
      have zb := BB.out.size
      have X3 := hex_any (some ⟨g, 0, none⟩) m cap xs wb sb (by omega)
      have HF : ∃ kk, strOfNums (hexL xs) = kk := ⟨_, rfl⟩
      obtain ⟨kk, hkk⟩ := HF
      have HKK : Hid (strOfNums (hexL xs) = kk) := hkk
      rw [hkk] at X3
      clear hkk
      go_wp2_with fail
      refine X3.mono ?_
      rintro en wc ⟨rfl, bc⟩
      have BC : Hid (Below w.heap.size w wc) := BB.out.trans (bc.mono zb)
      have sc := sb.later bc (Nat.le_refl _)
      have zc := BC.out.size
      clear bc X3 sb
      go_wp2_with fail
      refine (copied_any (some ⟨g, 0, none⟩) m cap xs wc sc (fun h => by cases h)).mono ?_
      rintro en wd ⟨vd, rfl, od, bd⟩
      have BD : Hid (Below w.heap.size w wd) := BC.out.trans (bd.mono zc)
      have zd := BD.out.size
      obtain ⟨ad, cd, rfl, sd, _⟩ := own_seen HXL.out.1 HXL.out.2 (by omega) od
      have X4 := rhex_any ad m cd xs wd sd (by omega)
      rw [HKK.out] at X4
      clear od bd sc
      go_wp2_with fail
      refine X4.mono ?_
      rintro en we ⟨rfl, be⟩
      have BE : Hid (Below w.heap.size w we) := BD.out.trans (be.mono zd)
      clear be X4 sd
      go_wp2
      go_ret
      exact ⟨rfl, BE.out⟩
end Go.Proofs.Ytkkiceldlcfjiaa.octetHexes
