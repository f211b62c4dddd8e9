/- The document's numbers: digits, less. -/
import Derived.Test.YtfeeikkfjbdkiaaRFCar
namespace Go.Proofs.Ytfeeikkfjbdkiaa
open Go.RowKit
set_option linter.unusedVariables false
set_option linter.unusedSimpArgs false

/-- Two bytes a digit. -/
def dgs : List Int → List Int
  | a :: b :: r => (a + 256 * b) :: dgs r
  | _ => []
theorem dgs_length : ∀ (n : Nat) (l : List Int), l.length = 2 * n → (dgs l).length = n
  | 0, [], _ => rfl
  | n + 1, a :: b :: r, h => by simp [dgs, dgs_length n r (by simp at h; omega)]
theorem dgs_vd : ∀ (n : Nat) (l : List Int), l.length = 2 * n → vd (dgs l) = le l
  | 0, [], _ => rfl
  | n + 1, a :: b :: r, h => by
    simp only [dgs, vd, le, dgs_vd n r (by simp at h; omega)]
    omega
theorem dgs_at : ∀ (n k : Nat) (l : List Int), l.length = 2 * n → k < n → (dgs l).getD k 0 = l.getD (2 * k) 0 + 256 * l.getD (2 * k + 1) 0
  | n + 1, 0, a :: b :: r, h, _ => by simp [dgs]
  | n + 1, k + 1, a :: b :: r, h, hk => by
    have ih := dgs_at n k r (by simp at h; omega) (by omega)
    rw [show 2 * (k + 1) = 2 * k + 1 + 1 by omega]
    simp only [dgs, List.getD_cons_succ]
    rw [ih]
theorem dgs_bd : ∀ (l : List Int), Bytes l → ∀ z ∈ dgs l, 0 ≤ z ∧ z < 65536
  | [], _, z, hz => by cases hz
  | [_], _, z, hz => by cases hz
  | a :: b :: r, h, z, hz => by
    rcases List.mem_cons.1 hz with rfl | hz
    · have := h a (by simp); have := h b (by simp); omega
    · exact dgs_bd r (fun y hy => h y (by simp [hy])) z hz
/-- The first k of n, noughts behind them. -/
def fillK (n : Nat) (L : List Int) (k : Nat) : List Int := L.take k ++ List.replicate (n - k) 0
theorem fillK_length (n : Nat) (L : List Int) (hL : L.length = n) (k : Nat) (hk : k ≤ n) : (fillK n L k).length = n := by
  rw [fillK, List.length_append, List.length_take, List.length_replicate, hL]; omega
theorem fillK_set (n : Nat) (L : List Int) (hL : L.length = n) (k : Nat) (hk : k < n) : (fillK n L k).set k (L.getD k 0) = fillK n L (k + 1) := by
  have e : List.replicate (n - k) (0 : Int) = 0 :: List.replicate (n - (k + 1)) 0 := by
    rw [show n - k = n - (k + 1) + 1 by omega, List.replicate_succ]
  have hl : (L.take k).length = k := by rw [List.length_take, hL]; omega
  rw [fillK, e, List.set_append_right _ _ (by omega), hl, Nat.sub_self, List.set_cons_zero, fillK, List.take_succ_eq_append_getElem (show k < L.length by omega)]
  simp only [List.getD, List.getElem?_eq_getElem (show k < L.length by omega), Option.getD_some, List.append_assoc, List.singleton_append]
theorem fillK_all (n : Nat) (L : List Int) (hL : L.length = n) : fillK n L n = L := by
  rw [fillK, List.take_of_length_le (by omega)]; simp
theorem w64 (z : Int) (h : -9223372036854775808 ≤ z ∧ z < 9223372036854775808) : wrap64 z = z := by unfold wrap64; omega
theorem wi64 (z : Int) (h : -9223372036854775808 ≤ z ∧ z < 9223372036854775808) : IntKind.i64.wrap z = z := by simp only [IntKind.wrap, IntKind.bits, IntKind.signed]; simp; omega
set_option maxRecDepth 20000 in
set_option maxHeartbeats 1000000 in
theorem digits_any (bs : List Int) (hl : bs.length = 32) (hb : Bytes bs) (w : World) :
    Calls Try.prog 42 #[.agg (u8s bs).toArray] w fun e w' => e = .returned (.agg (i64s (dgs bs)).toArray) ∧ Below w.heap.size w w' := by
  have HL : Hid (bs.length = 32 ∧ Bytes bs ∧ (dgs bs).length = 16) := ⟨hl, hb, dgs_length 16 bs hl⟩
  clear hl hb
  go_enter Try.func42, Try.ntmps42
  go_wp2_with (first | (refine wpList_box_new rfl 29 (.tmp 0) rfl (u8s bs) rfl ?_; intro x1 z1 s1 l1) | ((with_reducible show wpList _ _ _ _ _ x1); refine wpList_alloc_new rfl 69 rfl 16 _ zeroA16 ?_; intro x2 z2 s2 l2; rw [s1] at z2) | ((with_reducible show wpList _ _ _ _ _ x2); refine wpList_alloc_new rfl 69 rfl 16 _ zeroA16 ?_; intro x3 z3 s3 l3; rw [s2, s1] at z3))
  have WW : Hid (Below w.heap.size w x3 ∧ Blk x3 w.heap.size 29 (u8s bs) ∧ Blk x3 (w.heap.size + 1) 69 (i64s (List.replicate 16 0)) ∧ Blk x3 (w.heap.size + 1 + 1) 69 (i64s (List.replicate 16 0))) := ⟨below_chain (below_chain l1 l2 (by omega)) l3 (by omega), (z1.later l2 (by omega)).later l3 (by omega), z2.later l3 (by omega), z3⟩
  clear z1 s1 l1 z2 s2 l2 z3 s3 l3
  go_loopw [4] (fun i wr => ∃ (k : Nat), k ≤ 16 ∧ i = .int .i64 k ∧ Blk wr (w.heap.size + 1 + 1) 69 (i64s (fillK 16 (dgs bs) k)) ∧ Kept (fun x => x = w.heap.size + 1 + 1) x3 wr) (fun i _ => 16 - (intOf i).toNat)
  case atStart => exact ⟨0, by omega, rfl, by simpa [fillK] using WW.out.2.2.2, Kept.refl _ _⟩
  case round =>
    obtain ⟨k, hk, rfl, hblk, hkp⟩ := hrel
    by_cases hlt : k < 16
    · have i1 : (k : Int) < 16 := by omega
      have i3 : (0 : Int) ≤ (k : Int) := by omega
      have hd := dgs_at 16 k bs HL.out.1 hlt
      obtain ⟨p, hp⟩ : ∃ p : Nat, 2 * k = p := ⟨_, rfl⟩
      obtain ⟨q, hq⟩ : ∃ q : Nat, p + 1 = q := ⟨_, rfl⟩
      rw [hp, hq] at hd
      have cX := u8s_cell (WW.out.2.1.kept hkp (by omega)) p (by rw [HL.out.1]; omega)
      have cY := u8s_cell (WW.out.2.1.kept hkp (by omega)) q (by rw [HL.out.1]; omega)
      have bX := HL.out.2.1.at p (by rw [HL.out.1]; omega)
      have bY := HL.out.2.1.at q (by rw [HL.out.1]; omega)
      obtain ⟨X, hX⟩ : ∃ z, bs.getD p 0 = z := ⟨_, rfl⟩
      obtain ⟨Y, hY⟩ : ∃ z, bs.getD q 0 = z := ⟨_, rfl⟩
      rw [hX] at cX bX hd
      rw [hY] at cY bY hd
      have c2 := i64s_cell hblk k (by rw [fillK_length 16 _ HL.out.2.2 k (by omega)]; exact hlt)
      obtain ⟨Z, hZ⟩ : ∃ z, (fillK 16 (dgs bs) k).getD k 0 = z := ⟨_, rfl⟩
      rw [hZ] at c2
      have fg := hblk.frozen k
      have j1 : 2 * (k : Int) = (p : Int) := by omega
      have j2 : (p : Int) + 1 = (q : Int) := by omega
      have j3 : IntKind.i64.wrap (p : Int) = (p : Int) := wi64 _ (by omega)
      have j4 : IntKind.i64.wrap (q : Int) = (q : Int) := wi64 _ (by omega)
      have j5 : (0 : Int) ≤ (p : Int) := by omega
      have j6 : (0 : Int) ≤ (q : Int) := by omega
      have j7 : (p : Int) < 32 := by omega
      have j8 : (q : Int) < 32 := by omega
      have v1 : IntKind.i64.wrap X = X := wi64 _ (by omega)
      have v2 : IntKind.i64.wrap Y = Y := wi64 _ (by omega)
      have v3 : IntKind.i64.wrap (256 * Y) = 256 * Y := wi64 _ (by omega)
      have v4 : IntKind.i64.wrap (X + 256 * Y) = X + 256 * Y := wi64 _ (by omega)
      have HQ : Hid (Blk wr (w.heap.size + 1 + 1) 69 (i64s (fillK 16 (dgs bs) k)) ∧ Kept (fun x => x = w.heap.size + 1 + 1) x3 wr ∧ (dgs bs).getD k 0 = X + 256 * Y) := ⟨hblk, hkp, hd⟩
      clear hblk hkp hd hX hY hZ hp hq bX bY
      go_wp2_with fail
      go_region_with fail
      go_wp2_with fail
      all_goals (
      go_roundw
      case rel =>
        have R := (HQ.out.1.set k (.int .i64 (X + 256 * Y))).drew
        have e := fillK_set 16 (dgs bs) HL.out.2.2 k hlt
        rw [HQ.out.2.2] at e
        rw [i64s_set, e] at R
        exact ⟨k + 1, by omega, by go_num, R, (HQ.out.2.1.setCell rfl _).drewN 1⟩
      case measure => simp [intOf]; omega)
    · have hk5 : k = 16 := by omega
      have i1 : ¬ ((k : Int) < 16) := by omega
      have X1 : Hid (Blk wr (w.heap.size + 1 + 1) 69 (i64s (dgs bs)) ∧ Blk wr (w.heap.size + 1) 69 (i64s (List.replicate 16 0)) ∧ Below w.heap.size w wr ∧ (i64s (dgs bs)).length = 16) := ⟨by rw [hk5, fillK_all 16 _ HL.out.2.2] at hblk; exact hblk, WW.out.2.2.1.kept hkp (by omega), below_kept WW.out.1 hkp WW.out.1.size (fun j hj => by omega), by rw [i64s_length]; exact HL.out.2.2⟩
      clear hblk hkp hk5 hlt hk
      go_wp2_with (first | (refine wpList_load_blk rfl 69 _ rfl (w.heap.size + 1 + 1) rfl (i64s (dgs bs)) _ X1.out.1 Try.underlying69 rfl (by rw [X1.out.2.2.2]; exact sizeA16) ?_) | (refine wpList_store_blk rfl 69 69 _ _ rfl _ rfl _ (i64s (dgs bs)) rfl X1.out.2.1 (by rw [X1.out.2.2.2]; rfl) (by rw [X1.out.2.2.2]; exact sizeA16) (i64s_one _) ?_; intro w6 b6 s6 k6))
      exact ret_blk rfl (w.heap.size + 1) (i64s (dgs bs)) _ rfl b6 Try.underlying69 rfl (by rw [X1.out.2.2.2]; exact sizeA16) rfl ⟨rfl, below_kept X1.out.2.2.1 k6 X1.out.2.2.1.size (fun j hj => by omega)⟩
/-- Digit by digit, one less the other. -/
def dif (a b : List Int) : List Int := List.zipWith (fun x y => x - y) a b
theorem dif_vd : ∀ (a b : List Int), a.length = b.length → vd (dif a b) = vd a - vd b
  | [], [], _ => rfl
  | x :: a, y :: b, h => by
    have := dif_vd a b (by simpa using h)
    simp only [dif, List.zipWith_cons_cons, vd] at this ⊢
    rw [this]; omega
theorem chC_lo : ∀ (l : List Int) (c : Int), (∀ z ∈ l, -65536 < z ∧ z < 65536) → -1 ≤ c ∧ c ≤ 0 → -1 ≤ chC l c ∧ chC l c ≤ 0
  | [], c, _, hc => hc
  | z :: l, c, h, hc => by
    rw [chC]
    have := h z (by simp)
    exact chC_lo l _ (fun y hy => h y (by simp [hy])) ⟨by omega, by omega⟩
theorem dif_at (a b : List Int) (k : Nat) (h1 : k < a.length) (h2 : k < b.length) : (dif a b).getD k 0 = a.getD k 0 - b.getD k 0 := by
  simp only [dif, List.getD, List.getElem?_zipWith, List.getElem?_eq_getElem h1, List.getElem?_eq_getElem h2, Option.getD_some]
theorem dif_bd : ∀ (a b : List Int), (∀ z ∈ a, 0 ≤ z ∧ z < 65536) → (∀ z ∈ b, 0 ≤ z ∧ z < 65536) → ∀ z ∈ dif a b, -65536 < z ∧ z < 65536
  | [], _, _, _, z, hz => by cases hz
  | _ :: _, [], _, _, z, hz => by cases hz
  | x :: a, y :: b, ha, hb, z, hz => by
    rcases List.mem_cons.1 hz with rfl | hz
    · have := ha x (by simp); have := hb y (by simp); show -65536 < x - y ∧ x - y < 65536; omega
    · exact dif_bd a b (fun u hu => ha u (by simp [hu])) (fun u hu => hb u (by simp [hu])) z hz
/-- The first k of the differences, the rest of a behind them. -/
def leK (a b : List Int) (k : Nat) : List Int := chD ((dif a b).take k) 0 ++ a.drop k
theorem leK_len (a b : List Int) (ha : a.length = 16) (hb : b.length = 16) (k : Nat) (hk : k ≤ 16) : (chD ((dif a b).take k) 0).length = k ∧ (leK a b k).length = 16 := by
  have h : (dif a b).length = 16 := by simp [dif, ha, hb]
  have h2 : (chD ((dif a b).take k) 0).length = k := by rw [chD_length, List.length_take]; omega
  exact ⟨h2, by rw [leK, List.length_append, h2, List.length_drop]; omega⟩
theorem leK_at (a b : List Int) (ha : a.length = 16) (hb : b.length = 16) (k : Nat) (hk : k < 16) : (leK a b k).getD k 0 = a.getD k 0 := by
  have h := (leK_len a b ha hb k (by omega)).1
  rw [leK, drop_getD a k (by omega)]
  simp only [List.getD]
  rw [List.getElem?_append_right (by omega), h, Nat.sub_self]; rfl
theorem leK_set (a b : List Int) (ha : a.length = 16) (hb : b.length = 16) (k : Nat) (hk : k < 16) : (leK a b k).set k ((a.getD k 0 - b.getD k 0 + chC ((dif a b).take k) 0) % 65536) = leK a b (k + 1) := by
  have h := (leK_len a b ha hb k (by omega)).1
  have hd : (dif a b).length = 16 := by simp [dif, ha, hb]
  rw [leK, drop_getD a k (by omega), List.set_append_right _ _ (by omega), h, Nat.sub_self, List.set_cons_zero, leK, take_succ_getD (dif a b) k (by omega), chD_app, dif_at a b k (by omega) (by omega)]
  simp
theorem leK_all (a b : List Int) (ha : a.length = 16) (hb : b.length = 16) : leK a b 16 = ldD 16 (vd a - vd b) := by
  have hd : (dif a b).length = 16 := by simp [dif, ha, hb]
  rw [leK, List.drop_of_length_le (by omega), List.append_nil, List.take_of_length_le (by omega), chD_eq, hd, Int.add_zero, dif_vd a b (by omega)]
set_option maxRecDepth 20000 in
set_option maxHeartbeats 1000000 in
theorem less_any (a b : List Int) (ha : a.length = 16) (hb : b.length = 16) (na : ∀ z ∈ a, 0 ≤ z ∧ z < 65536) (nb : ∀ z ∈ b, 0 ≤ z ∧ z < 65536) (w : World) :
    Calls Try.prog 60 #[.agg (i64s a).toArray, .agg (i64s b).toArray] w fun e w' => e = .returned (.agg (i64s (ldD 16 (vd a - vd b))).toArray) ∧ Below w.heap.size w w' := by
  have HL : Hid (a.length = 16 ∧ b.length = 16 ∧ (∀ z ∈ a, 0 ≤ z ∧ z < 65536) ∧ (∀ z ∈ b, 0 ≤ z ∧ z < 65536) ∧ leK a b 16 = ldD 16 (vd a - vd b)) := ⟨ha, hb, na, nb, leK_all a b ha hb⟩
  clear ha hb na nb
  go_enter Try.func60, Try.ntmps60
  go_wp2_with (first | (refine wpList_box_new rfl 69 (.tmp 0) rfl (i64s a) rfl ?_; intro x1 z1 s1 l1) | (refine wpList_box_new rfl 69 (.tmp 1) rfl (i64s b) rfl ?_; intro x2 z2 s2 l2; rw [s1] at z2) | (refine wpList_alloc_new rfl 69 rfl 16 _ zeroA16 ?_; intro x3 z3 s3 l3; rw [s2, s1] at z3))
  have WW : Hid (Below w.heap.size w x3 ∧ Blk x3 w.heap.size 69 (i64s a) ∧ Blk x3 (w.heap.size + 1) 69 (i64s b) ∧ Blk x3 (w.heap.size + 1 + 1) 69 (i64s (List.replicate 16 0))) := ⟨below_chain (below_chain l1 l2 (by omega)) l3 (by omega), (z1.later l2 (by omega)).later l3 (by omega), z2.later l3 (by omega), z3⟩
  clear z1 s1 l1 z2 s2 l2 z3 s3 l3
  go_loopw [5, 6] (fun c i wr => ∃ (k : Nat), k ≤ 16 ∧ i = .int .i64 k ∧ c = .int .i64 (0 - chC ((dif a b).take k) 0) ∧ Blk wr w.heap.size 69 (i64s (leK a b k)) ∧ Kept (fun x => x = w.heap.size) x3 wr) (fun _ i _ => 16 - (intOf i).toNat)
  case atStart => exact ⟨0, by omega, rfl, rfl, WW.out.2.1, Kept.refl _ _⟩
  case round =>
    obtain ⟨k, hk, rfl, rfl, hblk, hkp⟩ := hrel
    by_cases hlt : k < 16
    · have i1 : (k : Int) < 16 := by omega
      have i3 : (0 : Int) ≤ (k : Int) := by omega
      have hc := chC_lo ((dif a b).take k) 0 (fun z hz => dif_bd a b HL.out.2.2.1 HL.out.2.2.2.1 z (List.mem_of_mem_take hz)) ⟨by decide, by decide⟩
      have hX : 0 ≤ a.getD k 0 ∧ a.getD k 0 < 65536 := HL.out.2.2.1 _ (by simp [List.getD, HL.out.1, hlt])
      have hY : 0 ≤ b.getD k 0 ∧ b.getD k 0 < 65536 := HL.out.2.2.2.1 _ (by simp [List.getD, HL.out.2.1, hlt])
      have cX := i64s_cell hblk k (by rw [(leK_len a b HL.out.1 HL.out.2.1 k (by omega)).2]; exact hlt)
      rw [leK_at a b HL.out.1 HL.out.2.1 k hlt] at cX
      have cY := i64s_cell (WW.out.2.2.1.kept hkp (by omega)) k (by rw [HL.out.2.1]; exact hlt)
      have fg := hblk.frozen k
      have HS : Hid ((leK a b k).set k ((a.getD k 0 - b.getD k 0 + chC ((dif a b).take k) 0) % 65536) = leK a b (k + 1) ∧ chC ((dif a b).take (k + 1)) 0 = (a.getD k 0 - b.getD k 0 + chC ((dif a b).take k) 0) / 65536) := by
        have hd : (dif a b).length = 16 := by simp [dif, HL.out.1, HL.out.2.1]
        exact ⟨leK_set a b HL.out.1 HL.out.2.1 k hlt, by rw [take_succ_getD (dif a b) k (by omega), chC_app, dif_at a b k (by rw [HL.out.1]; omega) (by rw [HL.out.2.1]; omega)]⟩
      obtain ⟨C, hC⟩ : ∃ z, chC ((dif a b).take k) 0 = z := ⟨_, rfl⟩
      obtain ⟨X, hXX⟩ : ∃ z, a.getD k 0 = z := ⟨_, rfl⟩
      obtain ⟨Y, hYY⟩ : ∃ z, b.getD k 0 = z := ⟨_, rfl⟩
      rw [hC] at hc HS ⊢
      rw [hXX] at hX cX HS
      rw [hYY] at hY cY HS
      have e1 : IntKind.i64.wrap (X - Y) = X - Y := wi64 _ (by omega)
      have e2 : IntKind.i64.wrap (X - Y - (0 - C)) = X - Y - (0 - C) := wi64 _ (by omega)
      have HQ : Hid (Blk wr w.heap.size 69 (i64s (leK a b k)) ∧ Kept (fun x => x = w.heap.size) x3 wr) := ⟨hblk, hkp⟩
      clear hblk hkp hC hXX hYY
      by_cases hneg : X - Y - (0 - C) < 0
      · have e3 : IntKind.i64.wrap (X - Y - (0 - C) + 65536) = X - Y - (0 - C) + 65536 := wi64 _ (by omega)
        go_wp2_with fail
        go_quiet (fail)
        go_wp2_with fail
        go_roundw
        case rel =>
          have R := (HQ.out.1.drewN nq).set k (.int .i64 ((X - Y + C) % 65536))
          rw [i64s_set, HS.out.1] at R
          rw [show X - Y + C + 65536 = (X - Y + C) % 65536 by omega]
          exact ⟨k + 1, by omega, by go_num, by rw [HS.out.2]; congr 1; omega, R, (HQ.out.2.drewN nq).setCell rfl _⟩
        case measure => simp [intOf]; omega
      · go_wp2_with fail
        go_quiet (fail)
        go_wp2_with fail
        go_roundw
        case rel =>
          have R := (HQ.out.1.drewN nq).set k (.int .i64 ((X - Y + C) % 65536))
          rw [i64s_set, HS.out.1] at R
          rw [show Value.int .i64 (X - Y + C) = Value.int .i64 ((X - Y + C) % 65536) by congr 1; omega]
          exact ⟨k + 1, by omega, by go_num, by rw [HS.out.2]; congr 1; omega, R, (HQ.out.2.drewN nq).setCell rfl _⟩
        case measure => simp [intOf]; omega
    · have hk5 : k = 16 := by omega
      have i1 : ¬ ((k : Int) < 16) := by omega
      have X1 : Hid (Blk wr w.heap.size 69 (i64s (ldD 16 (vd a - vd b))) ∧ Blk wr (w.heap.size + 1 + 1) 69 (i64s (List.replicate 16 0)) ∧ Below w.heap.size w wr ∧ (i64s (ldD 16 (vd a - vd b))).length = 16) := ⟨by rw [hk5, HL.out.2.2.2.2] at hblk; exact hblk, WW.out.2.2.2.kept hkp (by omega), below_kept WW.out.1 hkp WW.out.1.size (fun j hj => by omega), by rw [i64s_length, ldD_length]⟩
      clear hblk hkp hk5 hlt hk
      go_wp2_with (first | (refine wpList_load_blk rfl 69 _ rfl w.heap.size rfl (i64s (ldD 16 (vd a - vd b))) _ X1.out.1 Try.underlying69 rfl (by rw [X1.out.2.2.2]; exact sizeA16) ?_) | (refine wpList_store_blk rfl 69 69 _ _ rfl _ rfl _ (i64s (ldD 16 (vd a - vd b))) rfl X1.out.2.1 (by rw [X1.out.2.2.2]; rfl) (by rw [X1.out.2.2.2]; exact sizeA16) (i64s_one _) ?_; intro w6 b6 s6 k6))
      exact ret_blk rfl (w.heap.size + 1 + 1) (i64s (ldD 16 (vd a - vd b))) _ rfl b6 Try.underlying69 rfl (by rw [X1.out.2.2.2]; exact sizeA16) rfl ⟨rfl, below_kept X1.out.2.2.1 k6 X1.out.2.2.1.size (fun j hj => by omega)⟩
end Go.Proofs.Ytfeeikkfjbdkiaa
