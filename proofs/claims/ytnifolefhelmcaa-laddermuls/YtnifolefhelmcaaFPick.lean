/- Layer field: Pick. -/
import Derived.Test.YtnifolefhelmcaaFAdd
import Derived.Test.YtnifolefhelmcaaTNum
namespace Go.Proofs.Ytnifolefhelmcaa
open Go.RowKit
set_option linter.unusedVariables false
set_option linter.unusedSimpArgs false

theorem zipK_all (f : Int → Int → Int) (l m : List Int) (hl : l.length = 5) (hm : m.length = 5) : zipK f 5 l m = List.zipWith f l m := by
  obtain ⟨a, b, c, d, e, rfl⟩ := five hl
  obtain ⟨a', b', c', d', e', rfl⟩ := five hm
  rfl
theorem zip_fst : ∀ (l m : List Int), l.length = m.length → List.zipWith (fun a _ => a) l m = l
  | [], [], _ => rfl
  | a :: l, b :: m, h => by simp [zip_fst l m (by simpa using h)]
theorem zip_snd : ∀ (l m : List Int), l.length = m.length → List.zipWith (fun _ b => b) l m = m
  | [], [], _ => rfl
  | a :: l, b :: m, h => by simp [zip_snd l m (by simpa using h)]
/-- What a mask picks, limb by limb. -/
theorem pick_limbs (c : Bool) (l m : List Int) (hl : l.length = 5) (hm : m.length = 5) : zipK (fun a b => bif c then a else b) 5 l m = bif c then l else m := by
  rw [zipK_all _ _ _ hl hm]
  cases c
  · exact zip_snd l m (by omega)
  · exact zip_fst l m (by omega)
theorem pk_mk (c : Bool) (x y : Int) (hx : Word x) (hy : Word y) : pk (mk c) x y = bif c then x else y := by
  cases c
  · exact pk_zero x y hy.1
  · exact pk_ones x y hx hy
set_option maxRecDepth 20000 in
set_option maxHeartbeats 1000000 in
theorem fpick_any (n : Int) (hn : Word n) (l m : List Int) (x y : Int) (hl : Fe l x) (hm : Fe m y) (w : World) :
    Calls Try.prog 28 #[.int .u64 n, .agg (u64s l).toArray, .agg (u64s m).toArray] w fun e w' => ∃ r, e = .returned (.agg (u64s r).toArray) ∧ Fe r (bif n % 2 == 1 then x else y) ∧ Below w.heap.size w w' := by
  have HL : Hid (Fe l x ∧ Fe m y) := ⟨hl, hm⟩
  have hbit := bit_any n hn
  obtain ⟨c, hc⟩ : ∃ c, (n % 2 == 1) = c := ⟨_, rfl⟩
  rw [hc] at hbit ⊢
  clear hl hm hc
  have HM : Hid (Word (mk c)) := mk_bd c
  obtain ⟨M, hMM⟩ : ∃ z, mk c = z := ⟨_, rfl⟩
  have HP : Hid (∀ a b, Word a → Word b → ∀ w, Calls Try.prog 67 #[.int .u64 M, .int .u64 a, .int .u64 b] w fun e w' => e = .returned (.int .u64 (bif c then a else b)) ∧ w = w') := fun a b ha hb w => by
    have h := pick_any (mk c) a b HM.out ha hb w
    rwa [pk_mk c a b ha hb, hMM] at h
  rw [hMM] at hbit
  clear hMM HM
  go_enter Try.func28, Try.ntmps28
  go_wp2_with (first | (refine wpList_box_new rfl 27 (.tmp 1) rfl (u64s l) rfl ?_; intro x1 z1 s1 l1) | (refine wpList_box_new rfl 27 (.tmp 2) rfl (u64s m) rfl ?_; intro x2 z2 s2 l2) | (refine wpList_alloc_new rfl 27 rfl 5 _ zeroElem ?_; intro x3 z3 s3 l3) | (go_at_call 65; refine (hbit _).mono ?_; rintro e w' ⟨rfl, rfl⟩))
  have e2 : x1.heap.size = w.heap.size + 1 := s1
  have e3 : x2.heap.size = w.heap.size + 1 + 1 := by omega
  rw [e2] at z2
  rw [e3] at z3
  have WW : Hid (Below w.heap.size w x3 ∧ Blk x3 w.heap.size 27 (u64s l) ∧ Blk x3 (w.heap.size + 1) 27 (u64s m) ∧ Blk x3 (w.heap.size + 1 + 1) 27 (u64s [0, 0, 0, 0, 0])) := ⟨below_chain (below_chain l1 l2 (by omega)) l3 (by omega), (z1.later l2 (by omega)).later l3 (by omega), z2.later l3 (by omega), z3⟩
  clear z1 s1 l1 z2 s2 l2 z3 s3 l3 e2 e3
  go_loopw [11] (fun i wr => ∃ (k : Nat), k ≤ 5 ∧ i = .int .i64 k ∧ Blk wr w.heap.size 27 (u64s (zipK (fun a b => bif c then a else b) k l m)) ∧ Kept (fun x => x = w.heap.size) x3 wr) (fun i _ => 5 - (intOf i).toNat)
  case atStart => exact ⟨0, by omega, rfl, by have := WW.out.2.1; cases l <;> exact this, Kept.refl _ _⟩
  case round =>
    obtain ⟨k, hk, rfl, hblk, hkp⟩ := hrel
    by_cases hlt : k < 5
    · have h1 : k < l.length := by rw [HL.out.1.len]; exact hlt
      have h2 : k < m.length := by rw [HL.out.2.len]; exact hlt
      obtain ⟨X, hX⟩ : ∃ X, l[k] = X := ⟨_, rfl⟩
      obtain ⟨Y, hY⟩ : ∃ Y, m[k] = Y := ⟨_, rfl⟩
      have lX : Lim X := hX ▸ lim_at HL.out.1.lim k h1
      have lY : Lim Y := hY ▸ lim_at HL.out.2.lim k h2
      have ck : wr.cell? ⟨w.heap.size, k, none⟩ = some (.int .u64 X) := by
        rw [hblk.cell, u64s, List.getElem?_map, zipK_at, List.getElem?_eq_getElem h1, hX]; rfl
      have dk : wr.cell? ⟨w.heap.size + 1, k, none⟩ = some (.int .u64 Y) := by
        rw [(WW.out.2.2.1.kept hkp (by omega)).cell, u64s_getD h2, hY]
      have fg := hblk.frozen k
      have i1 : (k : Int) < 5 := by omega
      have i3 : (0 : Int) ≤ (k : Int) := by omega
      have hC := HP.out X Y ⟨lX.1, by have := lX.2; omega⟩ ⟨lY.1, by have := lY.2; omega⟩
      obtain ⟨Z, hZ⟩ : ∃ z, (bif c then X else Y) = z := ⟨_, rfl⟩
      rw [hZ] at hC
      have HQ : Hid (Blk wr w.heap.size 27 (u64s (zipK (fun a b => bif c then a else b) k l m)) ∧ Kept (fun x => x = w.heap.size) x3 wr ∧ l[k] = X ∧ m[k] = Y ∧ (bif c then X else Y) = Z) := ⟨hblk, hkp, hX, hY, hZ⟩
      clear hblk hkp hX hY lX lY hZ
      go_wp2_with fail
      go_region_with (go_at_call 67; refine (hC _).mono ?_; rintro e w' ⟨rfl, rfl⟩)
      go_wp2_with fail
      all_goals (
      go_roundw
      case rel =>
        have R := (HQ.out.1.set k (.int .u64 Z)).drew
        have e := zipK_set (fun a b => bif c then a else b) k l m h1 h2
        simp only [HQ.out.2.2.1, HQ.out.2.2.2.1, HQ.out.2.2.2.2] at e
        rw [u64s_set, e] at R
        exact ⟨k + 1, by omega, by go_num, R, (HQ.out.2.1.setCell rfl _).drewN 1⟩
      case measure => simp [intOf]; omega)
    · have hk5 : k = 5 := by omega
      have i1 : ¬ ((k : Int) < 5) := by omega
      obtain ⟨lr, hlr⟩ : ∃ z, (bif c then l else m) = z := ⟨_, rfl⟩
      have HF : Hid (Fe lr (bif c then x else y) ∧ lr.length = 5) := by
        rw [← hlr]
        cases c
        · exact ⟨HL.out.2, HL.out.2.len⟩
        · exact ⟨HL.out.1, HL.out.1.len⟩
      have HQ : Hid (Blk wr w.heap.size 27 (u64s lr) ∧ Blk wr (w.heap.size + 1 + 1) 27 (u64s [0, 0, 0, 0, 0]) ∧ Below w.heap.size w wr) := ⟨by rw [hk5, pick_limbs c l m HL.out.1.len HL.out.2.len, hlr] at hblk; exact hblk, WW.out.2.2.2.kept hkp (by omega), below_kept WW.out.1 hkp WW.out.1.size (fun j hj => by omega)⟩
      clear hblk hkp hlr hk5 hlt hk
      go_wp2_with (first | (refine wpList_load_blk rfl 27 (.tmp 4) rfl w.heap.size rfl (u64s lr) _ HQ.out.1 Try.underlying27 rfl (by rw [u64s_length, HF.out.2]; exact sizeElem) ?_) | (refine wpList_store_blk rfl 27 27 _ _ rfl _ rfl _ (u64s lr) rfl HQ.out.2.1 (by rw [u64s_length, HF.out.2]; rfl) (by rw [u64s_length, HF.out.2]; exact sizeElem) (u64s_one _) ?_; intro y7 b7 s7 k7))
      exact ret_blk rfl (w.heap.size + 1 + 1) (u64s lr) _ rfl b7 Try.underlying27 rfl (by rw [u64s_length, HF.out.2]; exact sizeElem) rfl ⟨lr, rfl, HF.out.1, below_kept HQ.out.2.2 k7 HQ.out.2.2.size (fun j hj => by omega)⟩
end Go.Proofs.Ytnifolefhelmcaa
