/- Layer field: reduce: the number below the prime, its limbs below 2^51. -/
import Derived.Test.YtnifolefhelmcaaFCarry
import Derived.Test.YtnifolefhelmcaaTNum
namespace Go.Proofs.Ytnifolefhelmcaa
open Go.RowKit
set_option linter.unusedVariables false
set_option linter.unusedSimpArgs false

/-- The limbs of a number below 2^255. -/
def digs (x : Int) : List Int := [x % 2251799813685248, x / 2251799813685248 % 2251799813685248, x / 5070602400912917605986812821504 % 2251799813685248, x / 11417981541647679048466287755595961091061972992 % 2251799813685248, x / 25711008708143844408671393477458601640355247900524685364822016 % 2251799813685248]
/-- Whether 19 more come up to 2^255: what is carried. -/
def rK (l : List Int) : Nat → Int
  | 0 => 19
  | k + 1 => (rK l k + l.getD k 0) / 2251799813685248
/-- What is carried when o is added. -/
def oK (l : List Int) (o : Int) : Nat → Int
  | 0 => o
  | k + 1 => (l.getD k 0 + oK l o k) / 2251799813685248
def stK (l : List Int) (o : Int) : Nat → List Int
  | 0 => l
  | k + 1 => (stK l o k).set k ((l.getD k 0 + oK l o k) % 2251799813685248)
theorem stK_length (l : List Int) (o : Int) : ∀ k, (stK l o k).length = l.length
  | 0 => rfl
  | k + 1 => by rw [stK, List.length_set, stK_length l o k]
theorem stK_at (l : List Int) (o : Int) : ∀ (k j : Nat), k ≤ j → (stK l o k)[j]? = l[j]?
  | 0, j, _ => rfl
  | k + 1, j, h => by rw [stK, List.getElem?_set_ne (by omega), stK_at l o k j (by omega)]
theorem lim_getD {l : List Int} (h : ∀ z ∈ l, Lim z) (k : Nat) : 0 ≤ l.getD k 0 ∧ l.getD k 0 < 2251799813701632 := by
  rcases Nat.lt_or_ge k l.length with h1 | h1
  · have := h _ (List.getElem_mem h1)
    simp only [List.getD, List.getElem?_eq_getElem h1, Option.getD_some]
    exact this
  · simp only [List.getD, List.getElem?_eq_none h1, Option.getD_none]
    decide
theorem rK_bd {l : List Int} (h : ∀ z ∈ l, Lim z) : ∀ k, 0 ≤ rK l k ∧ rK l k ≤ 19
  | 0 => ⟨by simp [rK], by simp [rK]⟩
  | k + 1 => by
    have := rK_bd h k; have := lim_getD h k
    rw [rK]; omega
theorem oK_bd {l : List Int} (h : ∀ z ∈ l, Lim z) (o : Int) (ho : 0 ≤ o ∧ o ≤ 361) : ∀ k, 0 ≤ oK l o k ∧ oK l o k ≤ 361
  | 0 => ho
  | k + 1 => by
    have := oK_bd h o ho k; have := lim_getD h k
    rw [oK]; omega
set_option maxHeartbeats 4000000 in
theorem red_num (a b c d e x : Int) (ha : Lim a) (hb : Lim b) (hc : Lim c) (hd : Lim d) (he : Lim e) (hx : v5 a b c d e % PR = x) :
    stK [a, b, c, d, e] (rK [a, b, c, d, e] 5 * 19) 5 = digs x := by
  simp only [stK, rK, oK, List.getD_cons_zero, List.getD_cons_succ, List.set_cons_zero, List.set_cons_succ]
  obtain ⟨r1, h1⟩ : ∃ z, (19 + a) / 2251799813685248 = z := ⟨_, rfl⟩
  obtain ⟨r2, h2⟩ : ∃ z, (r1 + b) / 2251799813685248 = z := ⟨_, rfl⟩
  obtain ⟨r3, h3⟩ : ∃ z, (r2 + c) / 2251799813685248 = z := ⟨_, rfl⟩
  obtain ⟨r4, h4⟩ : ∃ z, (r3 + d) / 2251799813685248 = z := ⟨_, rfl⟩
  obtain ⟨r5, h5⟩ : ∃ z, (r4 + e) / 2251799813685248 = z := ⟨_, rfl⟩
  rw [h1, h2, h3, h4, h5]
  unfold Lim at *
  unfold v5 PR at hx
  have q5 : r5 = 0 ∨ r5 = 1 := by omega
  obtain ⟨o1, g1⟩ : ∃ z, (a + r5 * 19) / 2251799813685248 = z := ⟨_, rfl⟩
  obtain ⟨o2, g2⟩ : ∃ z, (b + o1) / 2251799813685248 = z := ⟨_, rfl⟩
  obtain ⟨o3, g3⟩ : ∃ z, (c + o2) / 2251799813685248 = z := ⟨_, rfl⟩
  obtain ⟨o4, g4⟩ : ∃ z, (d + o3) / 2251799813685248 = z := ⟨_, rfl⟩
  rw [g1, g2, g3, g4]
  have hx2 : x = a + 2251799813685248 * b + 5070602400912917605986812821504 * c + 11417981541647679048466287755595961091061972992 * d + 25711008708143844408671393477458601640355247900524685364822016 * e - 57896044618658097711785492504343953926634992332820282019728792003956564819949 * r5 := by
    rcases q5 with rfl | rfl <;> omega
  unfold digs
  obtain ⟨e1, k1⟩ : ∃ z, (a + r5 * 19) % 2251799813685248 = z := ⟨_, rfl⟩
  obtain ⟨e2, k2⟩ : ∃ z, (b + o1) % 2251799813685248 = z := ⟨_, rfl⟩
  obtain ⟨e3, k3⟩ : ∃ z, (c + o2) % 2251799813685248 = z := ⟨_, rfl⟩
  obtain ⟨e4, k4⟩ : ∃ z, (d + o3) % 2251799813685248 = z := ⟨_, rfl⟩
  obtain ⟨e5, k5⟩ : ∃ z, (e + o4) % 2251799813685248 = z := ⟨_, rfl⟩
  obtain ⟨o5, g5⟩ : ∃ z, (e + o4) / 2251799813685248 = z := ⟨_, rfl⟩
  rw [k1, k2, k3, k4, k5]
  have hx3 : x = e1 + 2251799813685248 * e2 + 5070602400912917605986812821504 * e3 + 11417981541647679048466287755595961091061972992 * e4 + 25711008708143844408671393477458601640355247900524685364822016 * e5 + 57896044618658097711785492504343953926634992332820282019728792003956564819968 * (o5 - r5) := by omega
  have b1 : 0 ≤ e1 ∧ e1 < 2251799813685248 := by omega
  have b2 : 0 ≤ e2 ∧ e2 < 2251799813685248 := by omega
  have b3 : 0 ≤ e3 ∧ e3 < 2251799813685248 := by omega
  have b4 : 0 ≤ e4 ∧ e4 < 2251799813685248 := by omega
  have b5 : 0 ≤ e5 ∧ e5 < 2251799813685248 := by omega
  have bx : 0 ≤ x ∧ x < 57896044618658097711785492504343953926634992332820282019728792003956564819949 := by omega
  clear hx hx2 h1 h2 h3 h4 h5 g1 g2 g3 g4 g5 k1 k2 k3 k4 k5 ha hb hc hd he
  have z5 : o5 - r5 = 0 := by omega
  rw [z5] at hx3
  refine List.cons_eq_cons.2 ⟨by omega, List.cons_eq_cons.2 ⟨by omega, List.cons_eq_cons.2 ⟨by omega, List.cons_eq_cons.2 ⟨by omega, List.cons_eq_cons.2 ⟨by omega, rfl⟩⟩⟩⟩⟩
theorem infoU64 : (Try.prog.info? 24).map (fun i => (i.zero, i.size)) = some (some (.int .u64 0), 1) := by kernel_rfl
set_option maxRecDepth 20000 in
theorem idx_A5 (zs : List Int) (hl : zs.length = 5) (k : Nat) (hk : k < 5) (w : World) : (Instr.index 25 (.agg (u64s zs).toArray) (.int .i64 k)).run Try.prog w = .ok (.int .u64 (zs.getD k 0)) w := by
  have hsz : ∀ w, (sizeOf 24).run Try.prog w = .ok 1 w := fun w => by
    have h := infoU64
    cases hq : Try.prog.info? 24 with
    | none => simp [hq] at h
    | some i => simp [hq] at h; simp [sizeOf, typeInfo, hq, h.2]
  have px : (Go.part 24 (u64s zs).toArray (k * 1)).run Try.prog w = .ok (.int .u64 (zs.getD k 0)) w := by
    simp [Go.part, isAgg, run_underlying Try.underlying24, u64s, List.getD, List.getElem?_eq_getElem (show k < zs.length by omega)]
  rw [Nat.mul_one] at px
  simp [Instr.index, run_underlying Try.underlying25, asIntOf, hsz, hk, px]
set_option maxRecDepth 20000 in
set_option maxHeartbeats 1000000 in
theorem reduce_any (g : Nat) (l : List Int) (x : Int) (w : World) (hB : Blk w g 27 (u64s l)) (hl : Fe l x) :
    Calls Try.prog 62 #[.pointer (some ⟨g, 0, none⟩)] w fun e w' => e = .returned (.tuple #[]) ∧ Blk w' g 27 (u64s (digs x)) ∧ Kept (fun k => k = g) w w' := by
  have HB : Hid (Blk w g 27 (u64s l) ∧ Fe l x ∧ l.length = 5 ∧ (u64s l).length = 5) := ⟨hB, hl, hl.len, by rw [u64s_length]; exact hl.len⟩
  have HN : Hid (stK l (rK l 5 * 19) 5 = digs x) := by
    obtain ⟨a, b, c, d, e, rfl, ha, hb, hc, hd, he, hx⟩ := hl.parts
    exact red_num a b c d e x ha hb hc hd he hx
  clear hB hl
  go_enter Try.func62, Try.ntmps62
  go_wp2_with (refine wpList_load_mid rfl 25 _ rfl g 0 rfl (u64s l) _ HB.out.1.whole Try.underlying25 rfl (by rw [HB.out.2.2.2]; exact sizeA5) ?_)
  go_loopw [2, 11] (fun r i wr => ∃ (k : Nat), k ≤ 5 ∧ i = .int .i64 k ∧ r = .int .u64 (rK l k) ∧ w = wr) (fun _ i _ => 5 - (intOf i).toNat)
  case atStart => exact ⟨0, by omega, rfl, rfl, rfl⟩
  case round =>
    obtain ⟨k, hk, rfl, rfl, rfl⟩ := hrel
    by_cases hlt : k < 5
    · have hk2 : k < l.length := by rw [HB.out.2.2.1]; exact hlt
      have hb1 := rK_bd HB.out.2.1.lim k
      have hb2 := lim_getD HB.out.2.1.lim k
      have i1 : (k : Int) < 5 := by omega
      have i3 : (0 : Int) ≤ (k : Int) := by omega
      have HS : Hid (rK l (k + 1) = (rK l k + l.getD k 0) / 2251799813685248) := rfl
      obtain ⟨R, hR⟩ : ∃ z, rK l k = z := ⟨_, rfl⟩
      obtain ⟨X, hX⟩ : ∃ z, l.getD k 0 = z := ⟨_, rfl⟩
      have f1 := idx_A5 l HB.out.2.2.1 k hlt
      rw [hX] at f1
      rw [hR, hX] at HS
      rw [hR] at hb1 ⊢
      rw [hX] at hb2
      have e1 : IntKind.u64.wrap (R + X) = R + X := by rw [IntKind.wrap_u64]; omega
      clear hR hX
      go_wp2_with fail
      go_roundw
      case rel => exact ⟨k + 1, by omega, by go_num, by rw [HS.out], trivial⟩
      case measure => simp [intOf]; omega
    · have hk5 : k = 5 := by omega
      have i1 : ¬ ((k : Int) < 5) := by omega
      obtain ⟨O, hO⟩ : ∃ z, rK l k = z := ⟨_, rfl⟩
      have hO2 := rK_bd HB.out.2.1.lim k
      have hO5 : rK l 5 = O := by rw [← hO, hk5]
      rw [hO5] at HN
      rw [hO] at hO2 ⊢
      clear hO5 hk5 hlt
      have e1 : IntKind.u64.wrap (O * 19) = O * 19 := by rw [IntKind.wrap_u64]; omega
      have HO : Hid (0 ≤ O * 19 ∧ O * 19 ≤ 361) := ⟨by omega, by omega⟩
      clear hO hO2
      go_wp2_with fail
      clear e1
      go_loopw [5, 22] (fun o i wr => ∃ (k : Nat), k ≤ 5 ∧ i = .int .i64 k ∧ o = .int .u64 (oK l (O * 19) k) ∧ Blk wr g 27 (u64s (stK l (O * 19) k)) ∧ Kept (fun x => x = g) w wr) (fun _ i _ => 5 - (intOf i).toNat)
      case atStart => exact ⟨0, by omega, rfl, rfl, HB.out.1, Kept.refl _ _⟩
      case round =>
        obtain ⟨k, hk, rfl, rfl, hblk, hkp⟩ := hrel
        by_cases hlt : k < 5
        · have hk2 : k < l.length := by rw [HB.out.2.2.1]; exact hlt
          have hb1 := oK_bd HB.out.2.1.lim (O * 19) HO.out k
          have hb2 := lim_getD HB.out.2.1.lim k
          have i1 : (k : Int) < 5 := by omega
          have i3 : (0 : Int) ≤ (k : Int) := by omega
          have HS : Hid (oK l (O * 19) (k + 1) = (l.getD k 0 + oK l (O * 19) k) / 2251799813685248 ∧ stK l (O * 19) (k + 1) = (stK l (O * 19) k).set k ((l.getD k 0 + oK l (O * 19) k) % 2251799813685248)) := ⟨rfl, rfl⟩
          obtain ⟨R, hR⟩ : ∃ z, oK l (O * 19) k = z := ⟨_, rfl⟩
          obtain ⟨X, hX⟩ : ∃ z, l.getD k 0 = z := ⟨_, rfl⟩
          have ck : wr.cell? ⟨g, k, none⟩ = some (.int .u64 X) := by
            rw [hblk.cell, u64s, List.getElem?_map, stK_at l _ k k (Nat.le_refl _), ← hX]
            simp [List.getD, hk2]
          have fg := hblk.frozen k
          rw [hR, hX] at HS
          rw [hR] at hb1 ⊢
          rw [hX] at hb2
          have e1 : IntKind.u64.wrap (X + R) = X + R := by rw [IntKind.wrap_u64]; omega
          have e2 := and51 (X + R) (by omega) (by omega)
          have HQ : Hid (Blk wr g 27 (u64s (stK l (O * 19) k)) ∧ Kept (fun x => x = g) w wr) := ⟨hblk, hkp⟩
          clear hR hX hblk hkp hb1 hb2
          go_wp2_with fail
          go_region_with fail
          go_wp2_with fail
          go_region_with fail
          go_wp2_with fail
          all_goals (
          go_roundw
          case rel =>
            have RR := ((HQ.out.1.set k (.int .u64 (X + R))).set k (.int .u64 ((X + R) % 2251799813685248))).drew.drew
            rw [List.set_set, u64s_set, ← HS.out.2] at RR
            exact ⟨k + 1, by omega, by go_num, by rw [HS.out.1], RR, (((HQ.out.2.setCell rfl _).setCell rfl _).drewN 1).drewN 1⟩
          case measure => simp [intOf]; omega)
        · obtain rfl : k = 5 := by omega
          rw [HN.out] at hblk
          go_wp2_with fail
          go_end0
          exact ⟨rfl, hblk, hkp⟩
end Go.Proofs.Ytnifolefhelmcaa
