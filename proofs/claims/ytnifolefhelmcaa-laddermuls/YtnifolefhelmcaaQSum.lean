/- The document's numbers of ladder: plus, minus. -/
import Derived.Test.YtnifolefhelmcaaQCar
import Derived.Test.YtnifolefhelmcaaFAdd
namespace Go.Proofs.Ytnifolefhelmcaa
open Go.RowKit
set_option linter.unusedVariables false
set_option linter.unusedSimpArgs false

theorem zipK_len (f : Int → Int → Int) : ∀ (k : Nat) (l m : List Int), l.length = m.length → (zipK f k l m).length = l.length
  | 0, l, m, h => by cases l <;> rfl
  | k + 1, [], [], _ => rfl
  | k + 1, a :: l, b :: m, h => by simp [zipK, zipK_len f k l m (by simpa using h)]
theorem zipK_zip (f : Int → Int → Int) : ∀ (l m : List Int), l.length = m.length → zipK f l.length l m = List.zipWith f l m
  | [], [], _ => rfl
  | a :: l, b :: m, h => by simp [zipK, zipK_zip f l m (by simpa using h)]
theorem vd_plus : ∀ (l m : List Int), l.length = m.length → vd (List.zipWith (fun a b => a + b) l m) = vd l + vd m
  | [], [], _ => rfl
  | a :: l, b :: m, h => by simp only [List.zipWith_cons_cons, vd, vd_plus l m (by simpa using h)]; omega
theorem vd_minus : ∀ (l m : List Int), l.length = m.length → vd (List.zipWith (fun a b => a - b) l m) = vd l - vd m
  | [], [], _ => rfl
  | a :: l, b :: m, h => by simp only [List.zipWith_cons_cons, vd, vd_minus l m (by simpa using h)]; omega
theorem zip_all (f : Int → Int → Int) (P Q R : Int → Prop) (hf : ∀ a b, P a → Q b → R (f a b)) : ∀ (l m : List Int), (∀ z ∈ l, P z) → (∀ z ∈ m, Q z) → ∀ z ∈ List.zipWith f l m, R z
  | [], _, _, _, z, h => by cases h
  | a :: l, [], _, _, z, h => by cases h
  | a :: l, b :: m, hl, hm, z, h => by
    rcases List.mem_cons.1 h with rfl | h
    · exact hf a b (hl a (by simp)) (hm b (by simp))
    · exact zip_all f P Q R hf l m (fun y hy => hl y (by simp [hy])) (fun y hy => hm y (by simp [hy])) z h
/-- Digits below a bound. -/
def Dg (B : Int) (l : List Int) : Prop := l.length = 16 ∧ ∀ z ∈ l, -B ≤ z ∧ z ≤ B
theorem Dg.at {B : Int} {l : List Int} (h : Dg B l) (k : Nat) (hk : k < 16) : -B ≤ l.getD k 0 ∧ l.getD k 0 ≤ B := h.2 _ (by simp [List.getD, show k < l.length by rw [h.1]; exact hk])
set_option maxRecDepth 20000 in
set_option maxHeartbeats 1000000 in
theorem qplus_any (l m : List Int) (hl : Dg 1099511627776 l) (hm : Dg 1099511627776 m) (w : World) :
    Calls Try.prog 124 #[.agg (i64s l).toArray, .agg (i64s m).toArray] w fun e w' => e = .returned (.agg (i64s (List.zipWith (fun a b => a + b) l m)).toArray) ∧ Below w.heap.size w w' := by
  have HL : Hid (Dg 1099511627776 l ∧ Dg 1099511627776 m) := ⟨hl, hm⟩
  clear hl hm
  go_enter Try.func124, Try.ntmps124
  go_wp2_with (first | (refine wpList_box_new rfl 140 (.tmp 0) rfl (i64s l) rfl ?_; intro x1 z1 s1 l1) | (refine wpList_box_new rfl 140 (.tmp 1) rfl (i64s m) rfl ?_; intro x2 z2 s2 l2; rw [s1] at z2) | (refine wpList_alloc_new rfl 140 rfl 16 _ zeroNm ?_; intro x3 z3 s3 l3; rw [s2, s1] at z3))
  have WW : Hid (Below w.heap.size w x3 ∧ Blk x3 w.heap.size 140 (i64s l) ∧ Blk x3 (w.heap.size + 1) 140 (i64s m) ∧ Blk x3 (w.heap.size + 1 + 1) 140 (i64s (List.replicate 16 0))) := ⟨below_chain (below_chain l1 l2 (by omega)) l3 (by omega), (z1.later l2 (by omega)).later l3 (by omega), z2.later l3 (by omega), z3⟩
  clear z1 s1 l1 z2 s2 l2 z3 s3 l3
  go_loopw [5] (fun i wr => ∃ (k : Nat), k ≤ 16 ∧ i = .int .i64 k ∧ Blk wr w.heap.size 140 (i64s (zipK (fun a b => a + b) k l m)) ∧ Kept (fun x => x = w.heap.size) x3 wr) (fun i _ => 16 - (intOf i).toNat)
  case atStart => exact ⟨0, by omega, rfl, by have := WW.out.2.1; cases l <;> exact this, Kept.refl _ _⟩
  case round =>
    obtain ⟨k, hk, rfl, hblk, hkp⟩ := hrel
    by_cases hlt : k < 16
    · have h1 : k < l.length := by rw [HL.out.1.1]; exact hlt
      have h2 : k < m.length := by rw [HL.out.2.1]; exact hlt
      have bX := HL.out.1.at k hlt
      have bY := HL.out.2.at k hlt
      obtain ⟨X, hX⟩ : ∃ X, l[k] = X := ⟨_, rfl⟩
      obtain ⟨Y, hY⟩ : ∃ Y, m[k] = Y := ⟨_, rfl⟩
      rw [show l.getD k 0 = X by simp [List.getD, h1, hX]] at bX
      rw [show m.getD k 0 = Y by simp [List.getD, h2, hY]] at bY
      have ck : wr.cell? ⟨w.heap.size, k, none⟩ = some (.int .i64 X) := by
        rw [hblk.cell, i64s, List.getElem?_map, zipK_at, List.getElem?_eq_getElem h1, hX]; rfl
      have dk : wr.cell? ⟨w.heap.size + 1, k, none⟩ = some (.int .i64 Y) := by
        rw [(WW.out.2.2.1.kept hkp (by omega)).cell, i64s, List.getElem?_map, List.getElem?_eq_getElem h2, hY]; rfl
      have fg := hblk.frozen k
      have i1 : (k : Int) < 16 := by omega
      have i3 : (0 : Int) ≤ (k : Int) := by omega
      have v1 : IntKind.i64.wrap (X + Y) = X + Y := by simp only [IntKind.wrap, IntKind.bits, IntKind.signed]; simp; omega
      have HQ : Hid (Blk wr w.heap.size 140 (i64s (zipK (fun a b => a + b) k l m)) ∧ Kept (fun x => x = w.heap.size) x3 wr ∧ l[k] = X ∧ m[k] = Y) := ⟨hblk, hkp, hX, hY⟩
      clear hblk hkp hX hY
      go_wp2_with fail
      go_region_with (fail)
      go_wp2_with fail
      all_goals (
      go_roundw
      case rel =>
        have R := (HQ.out.1.set k (.int .i64 (X + Y))).drew
        have e := zipK_set (fun a b => a + b) k l m h1 h2
        simp only [HQ.out.2.2.1, HQ.out.2.2.2] at e
        rw [i64s_set, e] at R
        exact ⟨k + 1, by omega, by go_num, R, (HQ.out.2.1.setCell rfl _).drewN 1⟩
      case measure => simp [intOf]; omega)
    · have hk5 : k = 16 := by omega
      have i1 : ¬ ((k : Int) < 16) := by omega
      obtain ⟨D, hD⟩ : ∃ z, List.zipWith (fun a b => a + b) l m = z := ⟨_, rfl⟩
      have hz := zipK_zip (fun a b => a + b) l m (by rw [HL.out.1.1, HL.out.2.1])
      rw [HL.out.1.1, hD] at hz
      rw [hk5, hz] at hblk
      have X1 : Hid (Blk wr w.heap.size 140 (i64s D) ∧ Blk wr (w.heap.size + 1 + 1) 140 (i64s (List.replicate 16 0)) ∧ Below w.heap.size w wr ∧ (i64s D).length = 16 ∧ List.zipWith (fun a b => a + b) l m = D) := ⟨hblk, WW.out.2.2.2.kept hkp (by omega), below_kept WW.out.1 hkp WW.out.1.size (fun j hj => by omega), by rw [i64s_length, ← hD]; simp [HL.out.1.1, HL.out.2.1], hD⟩
      clear hblk hkp hk5 hlt hk hD hz
      go_wp2_with (first | (refine wpList_load_blk rfl 140 _ rfl w.heap.size rfl (i64s D) _ X1.out.1 Try.underlying140 rfl (by rw [X1.out.2.2.2.1]; exact sizeNm) ?_) | (refine wpList_store_blk rfl 140 140 _ _ rfl _ rfl _ (i64s D) rfl X1.out.2.1 (by rw [X1.out.2.2.2.1]; rfl) (by rw [X1.out.2.2.2.1]; exact sizeNm) (i64s_one _) ?_; intro y6 b6 s6 k6))
      exact ret_blk rfl (w.heap.size + 1 + 1) (i64s D) _ rfl b6 Try.underlying140 rfl (by rw [X1.out.2.2.2.1]; exact sizeNm) rfl ⟨by rw [X1.out.2.2.2.2], below_kept X1.out.2.2.1 k6 X1.out.2.2.1.size (fun j hj => by omega)⟩
set_option maxRecDepth 20000 in
set_option maxHeartbeats 1000000 in
theorem qminus_any (l m : List Int) (hl : Dg 1099511627776 l) (hm : Dg 1099511627776 m) (w : World) :
    Calls Try.prog 125 #[.agg (i64s l).toArray, .agg (i64s m).toArray] w fun e w' => e = .returned (.agg (i64s (List.zipWith (fun a b => a - b) l m)).toArray) ∧ Below w.heap.size w w' := by
  have HL : Hid (Dg 1099511627776 l ∧ Dg 1099511627776 m) := ⟨hl, hm⟩
  clear hl hm
  go_enter Try.func125, Try.ntmps125
  go_wp2_with (first | (refine wpList_box_new rfl 140 (.tmp 0) rfl (i64s l) rfl ?_; intro x1 z1 s1 l1) | (refine wpList_box_new rfl 140 (.tmp 1) rfl (i64s m) rfl ?_; intro x2 z2 s2 l2; rw [s1] at z2) | (refine wpList_alloc_new rfl 140 rfl 16 _ zeroNm ?_; intro x3 z3 s3 l3; rw [s2, s1] at z3))
  have WW : Hid (Below w.heap.size w x3 ∧ Blk x3 w.heap.size 140 (i64s l) ∧ Blk x3 (w.heap.size + 1) 140 (i64s m) ∧ Blk x3 (w.heap.size + 1 + 1) 140 (i64s (List.replicate 16 0))) := ⟨below_chain (below_chain l1 l2 (by omega)) l3 (by omega), (z1.later l2 (by omega)).later l3 (by omega), z2.later l3 (by omega), z3⟩
  clear z1 s1 l1 z2 s2 l2 z3 s3 l3
  go_loopw [5] (fun i wr => ∃ (k : Nat), k ≤ 16 ∧ i = .int .i64 k ∧ Blk wr w.heap.size 140 (i64s (zipK (fun a b => a - b) k l m)) ∧ Kept (fun x => x = w.heap.size) x3 wr) (fun i _ => 16 - (intOf i).toNat)
  case atStart => exact ⟨0, by omega, rfl, by have := WW.out.2.1; cases l <;> exact this, Kept.refl _ _⟩
  case round =>
    obtain ⟨k, hk, rfl, hblk, hkp⟩ := hrel
    by_cases hlt : k < 16
    · have h1 : k < l.length := by rw [HL.out.1.1]; exact hlt
      have h2 : k < m.length := by rw [HL.out.2.1]; exact hlt
      have bX := HL.out.1.at k hlt
      have bY := HL.out.2.at k hlt
      obtain ⟨X, hX⟩ : ∃ X, l[k] = X := ⟨_, rfl⟩
      obtain ⟨Y, hY⟩ : ∃ Y, m[k] = Y := ⟨_, rfl⟩
      rw [show l.getD k 0 = X by simp [List.getD, h1, hX]] at bX
      rw [show m.getD k 0 = Y by simp [List.getD, h2, hY]] at bY
      have ck : wr.cell? ⟨w.heap.size, k, none⟩ = some (.int .i64 X) := by
        rw [hblk.cell, i64s, List.getElem?_map, zipK_at, List.getElem?_eq_getElem h1, hX]; rfl
      have dk : wr.cell? ⟨w.heap.size + 1, k, none⟩ = some (.int .i64 Y) := by
        rw [(WW.out.2.2.1.kept hkp (by omega)).cell, i64s, List.getElem?_map, List.getElem?_eq_getElem h2, hY]; rfl
      have fg := hblk.frozen k
      have i1 : (k : Int) < 16 := by omega
      have i3 : (0 : Int) ≤ (k : Int) := by omega
      have v1 : IntKind.i64.wrap (X - Y) = X - Y := by simp only [IntKind.wrap, IntKind.bits, IntKind.signed]; simp; omega
      have HQ : Hid (Blk wr w.heap.size 140 (i64s (zipK (fun a b => a - b) k l m)) ∧ Kept (fun x => x = w.heap.size) x3 wr ∧ l[k] = X ∧ m[k] = Y) := ⟨hblk, hkp, hX, hY⟩
      clear hblk hkp hX hY
      go_wp2_with fail
      go_region_with (fail)
      go_wp2_with fail
      all_goals (
      go_roundw
      case rel =>
        have R := (HQ.out.1.set k (.int .i64 (X - Y))).drew
        have e := zipK_set (fun a b => a - b) k l m h1 h2
        simp only [HQ.out.2.2.1, HQ.out.2.2.2] at e
        rw [i64s_set, e] at R
        exact ⟨k + 1, by omega, by go_num, R, (HQ.out.2.1.setCell rfl _).drewN 1⟩
      case measure => simp [intOf]; omega)
    · have hk5 : k = 16 := by omega
      have i1 : ¬ ((k : Int) < 16) := by omega
      obtain ⟨D, hD⟩ : ∃ z, List.zipWith (fun a b => a - b) l m = z := ⟨_, rfl⟩
      have hz := zipK_zip (fun a b => a - b) l m (by rw [HL.out.1.1, HL.out.2.1])
      rw [HL.out.1.1, hD] at hz
      rw [hk5, hz] at hblk
      have X1 : Hid (Blk wr w.heap.size 140 (i64s D) ∧ Blk wr (w.heap.size + 1 + 1) 140 (i64s (List.replicate 16 0)) ∧ Below w.heap.size w wr ∧ (i64s D).length = 16 ∧ List.zipWith (fun a b => a - b) l m = D) := ⟨hblk, WW.out.2.2.2.kept hkp (by omega), below_kept WW.out.1 hkp WW.out.1.size (fun j hj => by omega), by rw [i64s_length, ← hD]; simp [HL.out.1.1, HL.out.2.1], hD⟩
      clear hblk hkp hk5 hlt hk hD hz
      go_wp2_with (first | (refine wpList_load_blk rfl 140 _ rfl w.heap.size rfl (i64s D) _ X1.out.1 Try.underlying140 rfl (by rw [X1.out.2.2.2.1]; exact sizeNm) ?_) | (refine wpList_store_blk rfl 140 140 _ _ rfl _ rfl _ (i64s D) rfl X1.out.2.1 (by rw [X1.out.2.2.2.1]; rfl) (by rw [X1.out.2.2.2.1]; exact sizeNm) (i64s_one _) ?_; intro y6 b6 s6 k6))
      exact ret_blk rfl (w.heap.size + 1 + 1) (i64s D) _ rfl b6 Try.underlying140 rfl (by rw [X1.out.2.2.2.1]; exact sizeNm) rfl ⟨by rw [X1.out.2.2.2.2], below_kept X1.out.2.2.1 k6 X1.out.2.2.1.size (fun j hj => by omega)⟩
end Go.Proofs.Ytnifolefhelmcaa
