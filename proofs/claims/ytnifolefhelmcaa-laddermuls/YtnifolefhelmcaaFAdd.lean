/- Layer field: Add, Sub, Neg, Small. -/
import Derived.Test.YtnifolefhelmcaaFCarry
namespace Go.Proofs.Ytnifolefhelmcaa
open Go.RowKit
set_option linter.unusedVariables false
set_option linter.unusedSimpArgs false

/-- Two rows of limbs made one by f, the first k of them. -/
def zipK (f : Int → Int → Int) : Nat → List Int → List Int → List Int
  | k + 1, a :: l, b :: m => f a b :: zipK f k l m
  | _, l, _ => l
theorem zipK_at (f : Int → Int → Int) : ∀ (k : Nat) (l m : List Int), (zipK f k l m)[k]? = l[k]?
  | 0, l, m => by cases l <;> cases m <;> rfl
  | k + 1, [], m => by cases m <;> rfl
  | k + 1, a :: l, [] => rfl
  | k + 1, a :: l, b :: m => by simpa [zipK] using zipK_at f k l m
theorem zipK_set (f : Int → Int → Int) : ∀ (k : Nat) (l m : List Int) (h : k < l.length) (h' : k < m.length), (zipK f k l m).set k (f l[k] m[k]) = zipK f (k + 1) l m
  | 0, a :: l, b :: m, _, _ => by cases l <;> cases m <;> rfl
  | k + 1, a :: l, b :: m, h, h' => by simpa [zipK] using zipK_set f k l m (by simpa using h) (by simpa using h')
theorem lim_at {l : List Int} (h : ∀ z ∈ l, Lim z) (k : Nat) (hk : k < l.length) : Lim l[k] := h _ (List.getElem_mem hk)
set_option maxRecDepth 20000 in
set_option maxHeartbeats 1000000 in
theorem add_any (l m : List Int) (x y : Int) (hl : Fe l x) (hm : Fe m y) (w : World) :
    Calls Try.prog 29 #[.agg (u64s l).toArray, .agg (u64s m).toArray] w fun e w' => ∃ r, e = .returned (.agg (u64s r).toArray) ∧ Fe r ((x + y) % PR) ∧ Below w.heap.size w w' := by
  have HL : Hid (Fe l x ∧ Fe m y) := ⟨hl, hm⟩
  clear hl hm
  go_enter Try.func29, Try.ntmps29
  go_wp2_with (first | (refine wpList_box_new rfl 27 (.tmp 0) rfl (u64s l) rfl ?_; intro x1 z1 s1 l1) | (refine wpList_box_new rfl 27 (.tmp 1) rfl (u64s m) rfl ?_; intro x2 z2 s2 l2) | (refine wpList_alloc_new rfl 27 rfl 5 _ zeroElem ?_; intro x3 z3 s3 l3))
  have e2 : x1.heap.size = w.heap.size + 1 := s1
  have e3 : x2.heap.size = w.heap.size + 1 + 1 := by omega
  rw [e2] at z2
  rw [e3] at z3
  have WW : Hid (Below w.heap.size w x3 ∧ Blk x3 w.heap.size 27 (u64s l) ∧ Blk x3 (w.heap.size + 1) 27 (u64s m) ∧ Blk x3 (w.heap.size + 1 + 1) 27 (u64s [0, 0, 0, 0, 0])) := ⟨below_chain (below_chain l1 l2 (by omega)) l3 (by omega), (z1.later l2 (by omega)).later l3 (by omega), z2.later l3 (by omega), z3⟩
  clear z1 s1 l1 z2 s2 l2 z3 s3 l3 e2 e3
  go_loopw [6] (fun i wr => ∃ (k : Nat), k ≤ 5 ∧ i = .int .i64 k ∧ Blk wr w.heap.size 27 (u64s (zipK (fun a b => a + b) k l m)) ∧ Kept (fun x => x = w.heap.size) x3 wr) (fun i _ => 5 - (intOf i).toNat)
  case atStart => exact ⟨0, by omega, rfl, by have := WW.out.2.1; cases l <;> exact this, Kept.refl _ _⟩
  case round =>
    obtain ⟨k, hk, rfl, hblk, hkp⟩ := hrel
    by_cases hlt : k < 5
    · have h1 : k < l.length := by rw [HL.out.1.len]; exact hlt
      have h2 : k < m.length := by rw [HL.out.2.len]; exact hlt
      obtain ⟨X, hX⟩ : ∃ X, l[k] = X := ⟨_, rfl⟩
      obtain ⟨Y, hY⟩ : ∃ Y, m[k] = Y := ⟨_, rfl⟩
      have lX : Lim X := hX ▸ lim_at HL.out.1.lim k h1
      have lY : Lim Y := hY ▸ lim_at HL.out.2.lim k h2
      have ck : wr.cell? ⟨w.heap.size, k, none⟩ = some (.int .u64 X) := by
        rw [hblk.cell, u64s, List.getElem?_map, zipK_at, List.getElem?_eq_getElem h1, hX]; rfl
      have dk : wr.cell? ⟨w.heap.size + 1, k, none⟩ = some (.int .u64 Y) := by
        rw [(WW.out.2.2.1.kept hkp (by omega)).cell, u64s_getD h2, hY]
      have fg := hblk.frozen k
      have i1 : (k : Int) < 5 := by omega
      have i3 : (0 : Int) ≤ (k : Int) := by omega
      have eX : IntKind.u64.wrap (X + Y) = X + Y := by unfold Lim at *; rw [IntKind.wrap_u64]; omega
      have HQ : Hid (Blk wr w.heap.size 27 (u64s (zipK (fun a b => a + b) k l m)) ∧ Kept (fun x => x = w.heap.size) x3 wr ∧ l[k] = X ∧ m[k] = Y) := ⟨hblk, hkp, hX, hY⟩
      clear hblk hkp hX hY lX lY
      go_wp2_with fail
      go_region_with fail
      go_wp2_with fail
      all_goals (
      go_roundw
      case rel =>
        have R := (HQ.out.1.set k (.int .u64 (X + Y))).drew
        have e := zipK_set (fun a b => a + b) k l m h1 h2
        simp only [HQ.out.2.2.1, HQ.out.2.2.2] at e
        rw [u64s_set, e] at R
        exact ⟨k + 1, by omega, by go_num, R, (HQ.out.2.1.setCell rfl _).drewN 1⟩
      case measure => simp [intOf]; omega)
    · obtain rfl : k = 5 := by omega
      obtain ⟨a0, a1, a2, a3, a4, rfl, ha0, ha1, ha2, ha3, ha4, hx⟩ := HL.out.1.parts
      obtain ⟨b0, b1, b2, b3, b4, rfl, hb0, hb1, hb2, hb3, hb4, hy⟩ := HL.out.2.parts
      have hF := cr_fe (a0 + b0) (a1 + b1) (a2 + b2) (a3 + b3) (a4 + b4) (by unfold Lim at *; omega) (by unfold Lim at *; omega) (by unfold Lim at *; omega) (by unfold Lim at *; omega) (by unfold Lim at *; omega)
      have hn : v5 (a0 + b0) (a1 + b1) (a2 + b2) (a3 + b3) (a4 + b4) % PR = (x + y) % PR := by
        rw [← hx, ← hy]; unfold v5 PR; omega
      rw [hn] at hF
      have HW : Hid (∀ W, Blk W w.heap.size 27 (u64s [a0 + b0, a1 + b1, a2 + b2, a3 + b3, a4 + b4]) → Calls Try.prog 68 #[.pointer (some ⟨w.heap.size, 0, none⟩)] W fun x w' => x = .returned (.tuple #[]) ∧ Blk w' w.heap.size 27 (u64s (cr (a0 + b0) (a1 + b1) (a2 + b2) (a3 + b3) (a4 + b4))) ∧ Kept (fun k => k = w.heap.size) W w') := fun W hB => carry_any _ _ _ _ _ _ W hB (by unfold Lim at *; omega) (by unfold Lim at *; omega) (by unfold Lim at *; omega) (by unfold Lim at *; omega) (by unfold Lim at *; omega)
      have HQ : Hid (Blk wr w.heap.size 27 (u64s [a0 + b0, a1 + b1, a2 + b2, a3 + b3, a4 + b4]) ∧ Blk wr (w.heap.size + 1 + 1) 27 (u64s [0, 0, 0, 0, 0]) ∧ Below w.heap.size w wr) := ⟨hblk, WW.out.2.2.2.kept hkp (by omega), below_kept WW.out.1 hkp WW.out.1.size (fun j hj => by omega)⟩
      obtain ⟨lr, hlr⟩ : ∃ z, cr (a0 + b0) (a1 + b1) (a2 + b2) (a3 + b3) (a4 + b4) = z := ⟨_, rfl⟩
      rw [hlr] at hF HW
      have HF : Hid (Fe lr ((x + y) % PR) ∧ lr.length = 5) := ⟨hF, hF.len⟩
      clear hF hn hblk hkp hlr ha0 ha1 ha2 ha3 ha4 hb0 hb1 hb2 hb3 hb4 hx hy
      go_wp2_with (first | (go_at_call 68; refine (HW.out _ HQ.out.1).mono ?_; rintro z y1 ⟨rfl, q1, q2⟩; have HR : Hid (Blk y1 w.heap.size 27 (u64s lr) ∧ Blk y1 (w.heap.size + 1 + 1) 27 (u64s [0, 0, 0, 0, 0]) ∧ Below w.heap.size w y1) := ⟨q1, HQ.out.2.1.kept q2 (by omega), below_kept HQ.out.2.2 q2 HQ.out.2.2.size (fun j hj => by omega)⟩; clear q1 q2) | (refine wpList_load_blk rfl 27 (.tmp 2) rfl w.heap.size rfl (u64s lr) _ HR.out.1 Try.underlying27 rfl (by rw [u64s_length, HF.out.2]; exact sizeElem) ?_) | (refine wpList_store_blk rfl 27 27 _ _ rfl _ rfl _ (u64s lr) rfl HR.out.2.1 (by rw [u64s_length, HF.out.2]; rfl) (by rw [u64s_length, HF.out.2]; exact sizeElem) (u64s_one _) ?_; intro y7 b7 s7 k7))
      exact ret_blk rfl (w.heap.size + 1 + 1) (u64s lr) _ rfl b7 Try.underlying27 rfl (by rw [u64s_length, HF.out.2]; exact sizeElem) rfl ⟨lr, rfl, HF.out.1, below_kept HR.out.2.2 k7 HR.out.2.2.size (fun j hj => by omega)⟩
set_option maxRecDepth 20000 in
set_option maxHeartbeats 1000000 in
theorem sub_any (l m : List Int) (x y : Int) (hl : Fe l x) (hm : Fe m y) (w : World) :
    Calls Try.prog 52 #[.agg (u64s l).toArray, .agg (u64s m).toArray] w fun e w' => ∃ r, e = .returned (.agg (u64s r).toArray) ∧ Fe r ((x - y) % PR) ∧ Below w.heap.size w w' := by
  have HL : Hid (Fe l x ∧ Fe m y) := ⟨hl, hm⟩
  clear hl hm
  go_enter Try.func52, Try.ntmps52
  go_wp2_with (first | (refine wpList_box_new rfl 27 (.tmp 0) rfl (u64s l) rfl ?_; intro x1 z1 s1 l1) | (refine wpList_box_new rfl 27 (.tmp 1) rfl (u64s m) rfl ?_; intro x2 z2 s2 l2) | (refine wpList_alloc_new rfl 27 rfl 5 _ zeroElem ?_; intro x3 z3 s3 l3))
  have e2 : x1.heap.size = w.heap.size + 1 := s1
  have e3 : x2.heap.size = w.heap.size + 1 + 1 := by omega
  rw [e2] at z2
  rw [e3] at z3
  have WW : Hid (Below w.heap.size w x3 ∧ Blk x3 w.heap.size 27 (u64s l) ∧ Blk x3 (w.heap.size + 1) 27 (u64s m) ∧ Blk x3 (w.heap.size + 1 + 1) 27 (u64s [0, 0, 0, 0, 0])) := ⟨below_chain (below_chain l1 l2 (by omega)) l3 (by omega), (z1.later l2 (by omega)).later l3 (by omega), z2.later l3 (by omega), z3⟩
  clear z1 s1 l1 z2 s2 l2 z3 s3 l3 e2 e3
  go_loopw [6] (fun i wr => ∃ (k : Nat), k ≤ 5 ∧ i = .int .i64 k ∧ Blk wr w.heap.size 27 (u64s (zipK (fun a b => a + (4503599627370494 - b)) k l m)) ∧ Kept (fun x => x = w.heap.size) x3 wr) (fun i _ => 5 - (intOf i).toNat)
  case atStart => exact ⟨0, by omega, rfl, by have := WW.out.2.1; cases l <;> exact this, Kept.refl _ _⟩
  case round =>
    obtain ⟨k, hk, rfl, hblk, hkp⟩ := hrel
    by_cases hlt : k < 5
    · have h1 : k < l.length := by rw [HL.out.1.len]; exact hlt
      have h2 : k < m.length := by rw [HL.out.2.len]; exact hlt
      obtain ⟨X, hX⟩ : ∃ X, l[k] = X := ⟨_, rfl⟩
      obtain ⟨Y, hY⟩ : ∃ Y, m[k] = Y := ⟨_, rfl⟩
      have lX : Lim X := hX ▸ lim_at HL.out.1.lim k h1
      have lY : Lim Y := hY ▸ lim_at HL.out.2.lim k h2
      have ck : wr.cell? ⟨w.heap.size, k, none⟩ = some (.int .u64 X) := by
        rw [hblk.cell, u64s, List.getElem?_map, zipK_at, List.getElem?_eq_getElem h1, hX]; rfl
      have dk : wr.cell? ⟨w.heap.size + 1, k, none⟩ = some (.int .u64 Y) := by
        rw [(WW.out.2.2.1.kept hkp (by omega)).cell, u64s_getD h2, hY]
      have fg := hblk.frozen k
      have i1 : (k : Int) < 5 := by omega
      have i3 : (0 : Int) ≤ (k : Int) := by omega
      have e0 : IntKind.u64.wrap (4503599627370494 - Y) = 4503599627370494 - Y := by unfold Lim at *; rw [IntKind.wrap_u64]; omega
      have eX : IntKind.u64.wrap (X + (4503599627370494 - Y)) = X + (4503599627370494 - Y) := by unfold Lim at *; rw [IntKind.wrap_u64]; omega
      have HQ : Hid (Blk wr w.heap.size 27 (u64s (zipK (fun a b => a + (4503599627370494 - b)) k l m)) ∧ Kept (fun x => x = w.heap.size) x3 wr ∧ l[k] = X ∧ m[k] = Y) := ⟨hblk, hkp, hX, hY⟩
      clear hblk hkp hX hY lX lY
      go_wp2_with fail
      go_region_with fail
      go_wp2_with fail
      all_goals (
      go_roundw
      case rel =>
        have R := (HQ.out.1.set k (.int .u64 (X + (4503599627370494 - Y)))).drew
        have e := zipK_set (fun a b => a + (4503599627370494 - b)) k l m h1 h2
        simp only [HQ.out.2.2.1, HQ.out.2.2.2] at e
        rw [u64s_set, e] at R
        exact ⟨k + 1, by omega, by go_num, R, (HQ.out.2.1.setCell rfl _).drewN 1⟩
      case measure => simp [intOf]; omega)
    · obtain rfl : k = 5 := by omega
      obtain ⟨a0, a1, a2, a3, a4, rfl, ha0, ha1, ha2, ha3, ha4, hx⟩ := HL.out.1.parts
      obtain ⟨b0, b1, b2, b3, b4, rfl, hb0, hb1, hb2, hb3, hb4, hy⟩ := HL.out.2.parts
      have hF := cr_fe (a0 + (4503599627370494 - b0) - 36) (a1 + (4503599627370494 - b1)) (a2 + (4503599627370494 - b2)) (a3 + (4503599627370494 - b3)) (a4 + (4503599627370494 - b4)) (by unfold Lim at *; omega) (by unfold Lim at *; omega) (by unfold Lim at *; omega) (by unfold Lim at *; omega) (by unfold Lim at *; omega)
      have hn : v5 (a0 + (4503599627370494 - b0) - 36) (a1 + (4503599627370494 - b1)) (a2 + (4503599627370494 - b2)) (a3 + (4503599627370494 - b3)) (a4 + (4503599627370494 - b4)) % PR = (x - y) % PR := by
        rw [← hx, ← hy]; unfold v5 PR; omega
      rw [hn] at hF
      have HW : Hid (∀ W, Blk W w.heap.size 27 (u64s [a0 + (4503599627370494 - b0) - 36, a1 + (4503599627370494 - b1), a2 + (4503599627370494 - b2), a3 + (4503599627370494 - b3), a4 + (4503599627370494 - b4)]) → Calls Try.prog 68 #[.pointer (some ⟨w.heap.size, 0, none⟩)] W fun x w' => x = .returned (.tuple #[]) ∧ Blk w' w.heap.size 27 (u64s (cr (a0 + (4503599627370494 - b0) - 36) (a1 + (4503599627370494 - b1)) (a2 + (4503599627370494 - b2)) (a3 + (4503599627370494 - b3)) (a4 + (4503599627370494 - b4)))) ∧ Kept (fun k => k = w.heap.size) W w') := fun W hB => carry_any _ _ _ _ _ _ W hB (by unfold Lim at *; omega) (by unfold Lim at *; omega) (by unfold Lim at *; omega) (by unfold Lim at *; omega) (by unfold Lim at *; omega)
      have HQ : Hid (Blk wr w.heap.size 27 (u64s [a0 + (4503599627370494 - b0), a1 + (4503599627370494 - b1), a2 + (4503599627370494 - b2), a3 + (4503599627370494 - b3), a4 + (4503599627370494 - b4)]) ∧ Blk wr (w.heap.size + 1 + 1) 27 (u64s [0, 0, 0, 0, 0]) ∧ Below w.heap.size w wr) := ⟨hblk, WW.out.2.2.2.kept hkp (by omega), below_kept WW.out.1 hkp WW.out.1.size (fun j hj => by omega)⟩
      obtain ⟨lr, hlr⟩ : ∃ z, cr (a0 + (4503599627370494 - b0) - 36) (a1 + (4503599627370494 - b1)) (a2 + (4503599627370494 - b2)) (a3 + (4503599627370494 - b3)) (a4 + (4503599627370494 - b4)) = z := ⟨_, rfl⟩
      rw [hlr] at hF HW
      have HF : Hid (Fe lr ((x - y) % PR) ∧ lr.length = 5) := ⟨hF, hF.len⟩
      have c0 : wr.cell? ⟨w.heap.size, 0, none⟩ = some (.int .u64 (a0 + (4503599627370494 - b0))) := HQ.out.1.cell 0
      have f0 := HQ.out.1.frozen 0
      have e0 : IntKind.u64.wrap (a0 + (4503599627370494 - b0) - 36) = a0 + (4503599627370494 - b0) - 36 := by unfold Lim at *; rw [IntKind.wrap_u64]; omega
      have HS : Hid (Blk (wr.setCell ⟨w.heap.size, 0, none⟩ (.int .u64 (a0 + (4503599627370494 - b0) - 36))) w.heap.size 27 (u64s [a0 + (4503599627370494 - b0) - 36, a1 + (4503599627370494 - b1), a2 + (4503599627370494 - b2), a3 + (4503599627370494 - b3), a4 + (4503599627370494 - b4)])) := by
        have R := HQ.out.1.set 0 (.int .u64 (a0 + (4503599627370494 - b0) - 36))
        rw [u64s_set, List.set_cons_zero] at R
        exact R
      have HT : Hid (Kept (fun k => k = w.heap.size) wr (wr.setCell ⟨w.heap.size, 0, none⟩ (.int .u64 (a0 + (4503599627370494 - b0) - 36)))) := (Kept.refl (fun k => k = w.heap.size) wr).setCell (p := ⟨w.heap.size, 0, none⟩) rfl _
      clear hF hn hblk hkp hlr ha0 ha1 ha2 ha3 ha4 hb0 hb1 hb2 hb3 hb4 hx hy
      go_wp2_with (first | (go_at_call 68; refine (HW.out _ HS.out).mono ?_; rintro z y1 ⟨rfl, q1, q3⟩; have q2 := HT.out.trans q3; have HR : Hid (Blk y1 w.heap.size 27 (u64s lr) ∧ Blk y1 (w.heap.size + 1 + 1) 27 (u64s [0, 0, 0, 0, 0]) ∧ Below w.heap.size w y1) := ⟨q1, HQ.out.2.1.kept q2 (by omega), below_kept HQ.out.2.2 q2 HQ.out.2.2.size (fun j hj => by omega)⟩; clear q1 q2) | (refine wpList_load_blk rfl 27 (.tmp 2) rfl w.heap.size rfl (u64s lr) _ HR.out.1 Try.underlying27 rfl (by rw [u64s_length, HF.out.2]; exact sizeElem) ?_) | (refine wpList_store_blk rfl 27 27 _ _ rfl _ rfl _ (u64s lr) rfl HR.out.2.1 (by rw [u64s_length, HF.out.2]; rfl) (by rw [u64s_length, HF.out.2]; exact sizeElem) (u64s_one _) ?_; intro y7 b7 s7 k7))
      exact ret_blk rfl (w.heap.size + 1 + 1) (u64s lr) _ rfl b7 Try.underlying27 rfl (by rw [u64s_length, HF.out.2]; exact sizeElem) rfl ⟨lr, rfl, HF.out.1, below_kept HR.out.2.2 k7 HR.out.2.2.size (fun j hj => by omega)⟩
theorem build_zeroE (w : World) : (Instr.build 27 #[]).run Try.prog w = .ok (.agg (u64s [0, 0, 0, 0, 0]).toArray) w := by kernel_rfl
theorem fe_zero : Fe [0, 0, 0, 0, 0] 0 := Fe.of ⟨by decide, by decide⟩ ⟨by decide, by decide⟩ ⟨by decide, by decide⟩ ⟨by decide, by decide⟩ ⟨by decide, by decide⟩ (by decide)
set_option maxRecDepth 20000 in
set_option maxHeartbeats 1000000 in
theorem neg_any (l : List Int) (x : Int) (hl : Fe l x) (w : World) :
    Calls Try.prog 26 #[.agg (u64s l).toArray] w fun e w' => ∃ r, e = .returned (.agg (u64s r).toArray) ∧ Fe r ((0 - x) % PR) ∧ Below w.heap.size w w' := by
  have HL : Hid (Fe l x ∧ l.length = 5) := ⟨hl, hl.len⟩
  clear hl
  go_enter Try.func26, Try.ntmps26
  go_wp2_with (first | (refine wpList_box_new rfl 27 (.tmp 0) rfl (u64s l) rfl ?_; intro x1 z1 s1 l1) | (refine wpList_alloc_new rfl 27 rfl 5 _ zeroElem ?_; intro x2 z2 s2 l2; rw [s1] at z2; have b1 := z1.later l2 (by omega)) | (refine wpList_build rfl 27 _ rfl #[] (by simp) _ (build_zeroE _) ?_) | (refine wpList_load_blk rfl 27 (.tmp 1) rfl w.heap.size rfl (u64s l) _ b1 Try.underlying27 rfl (by rw [u64s_length, HL.out.2]; exact sizeElem) ?_) | (go_at_call 52; refine (sub_any _ _ _ _ fe_zero HL.out.1 _).mono ?_; rintro e x3 ⟨r, rfl, hr, l3⟩; have HR : Hid (Fe r ((0 - x) % PR) ∧ r.length = 5) := ⟨hr, hr.len⟩; have b3 := z2.later l3 (by omega); clear hr) | (refine wpList_store_blk rfl 27 27 _ _ rfl _ rfl _ (u64s r) rfl b3 (by rw [u64s_length, HR.out.2]; rfl) (by rw [u64s_length, HR.out.2]; exact sizeElem) (u64s_one _) ?_; intro x4 b4 s4 k4))
  exact ret_blk rfl (w.heap.size + 1) (u64s r) _ rfl b4 Try.underlying27 rfl (by rw [u64s_length, HR.out.2]; exact sizeElem) rfl ⟨r, rfl, HR.out.1, below_kept (below_chain (below_chain l1 l2 (by omega)) l3 (by omega)) k4 (by have := l3.size; omega) (fun j hj => by omega)⟩
theorem small_fe (n : Int) (h0 : 0 ≤ n) (h1 : n < 18446744073709551616) : Fe [n % 2251799813685248, n / 2251799813685248, 0, 0, 0] n := by
  refine Fe.of ⟨by omega, by omega⟩ ⟨by omega, by omega⟩ ⟨by decide, by decide⟩ ⟨by decide, by decide⟩ ⟨by decide, by decide⟩ ?_
  unfold v5 PR; omega
set_option maxRecDepth 20000 in
set_option maxHeartbeats 1000000 in
theorem small_any (n : Int) (h0 : 0 ≤ n) (h1 : n < 18446744073709551616) (w : World) :
    Calls Try.prog 25 #[.int .u64 n] w fun e w' => ∃ r, e = .returned (.agg (u64s r).toArray) ∧ Fe r n ∧ Below w.heap.size w w' := by
  have e0 := and51 n h0 h1
  have HF : Hid (Fe [n % 2251799813685248, n / 2251799813685248, 0, 0, 0] n) := small_fe n h0 h1
  clear h0 h1
  go_enter Try.func25, Try.ntmps25
  go_wp2_with (first | (refine wpList_alloc_new rfl 27 rfl 5 _ zeroElem ?_; intro x1 z1 s1 l1) | (refine wpList_build rfl 25 _ rfl #[(0, .int .u64 (n % 2251799813685248)), (1, .int .u64 (n / 2251799813685248))] (by simp [Act.eval]) (.agg (u64s [n % 2251799813685248, n / 2251799813685248, 0, 0, 0]).toArray) (by kernel_rfl) ?_) | (refine wpList_build rfl 27 _ rfl #[(0, .agg (u64s [n % 2251799813685248, n / 2251799813685248, 0, 0, 0]).toArray)] (by simp [Act.eval, Act.put]) (.agg (u64s [n % 2251799813685248, n / 2251799813685248, 0, 0, 0]).toArray) (by kernel_rfl) ?_) | (refine wpList_store_blk rfl 27 27 _ _ rfl _ rfl _ (u64s [n % 2251799813685248, n / 2251799813685248, 0, 0, 0]) rfl z1 rfl sizeElem (u64s_one _) ?_; intro x4 b4 s4 k4))
  exact ret_blk rfl w.heap.size (u64s [n % 2251799813685248, n / 2251799813685248, 0, 0, 0]) _ rfl b4 Try.underlying27 rfl sizeElem rfl ⟨_, rfl, HF.out, below_kept l1 k4 (by omega) (fun j hj => by omega)⟩
end Go.Proofs.Ytnifolefhelmcaa
