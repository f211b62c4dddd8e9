/- Spare and Kept up to the greatest lengths; three rows as a lot. -/
import Derived.Test.YtmgkjldjeomcmaaDoorRApart
import Derived.Test.YtmgkjldjeomcmaaDoorROut
import Derived.Test.YtmgkjldjeomcmaaDoorDSpare
namespace Go.Proofs.YtmgkjldjeomcmaaDoor
open Go.RowKit
set_option linter.unusedVariables false
set_option linter.unusedSimpArgs false

theorem spared_big {w : World} {g : Nat} {zs : List Int} (h : Blk w g 5 (u8s (spared zs))) (hb : Bytes zs) (ht : zs.length ≤ 140737488351232) : Seen w (some ⟨g, 0, none⟩) zs.length zs :=
  ⟨rfl, by omega, hb, fun _ => ⟨g, 0, rfl, h.lt, fun i hi => by rw [Nat.zero_add, u8s_cell h i (by rw [spared_length]; omega), spared_front zs i hi]⟩⟩
set_option maxHeartbeats 1000000 in
set_option maxRecDepth 20000 in
theorem spare_big (ao : Option Addr) (n c : Nat) (zs : List Int) (w : World) (hx : Seen w ao n zs) (hn : n ≤ 140737488351232) :
    Calls Tryd.prog 19 #[.slice ao n c] w fun e w' => e = .returned (.slice (some ⟨w.heap.size, 0, none⟩) n (n + 80)) ∧ Blk w' w.heap.size 5 (u8s (spared zs)) ∧ w'.heap.size = w.heap.size + 1 ∧ Below w.heap.size w w' := by
  have HL : Hid (zs.length = n) := hx.len
  have HX : Hid (Seen w ao n zs) := hx
  obtain ⟨i0, hi, hz0, hz1, hz2⟩ := info_parts info_byte
  have hmk := run_make (P := Tryd.prog) w 24 5 i0 (.int .u8 0) Tryd.underlying24 hi hz0 .i64 .i64 ((n : Int) + 80) ((n : Int) + 80) (by omega) (Int.le_refl _) (by rw [hz2]; omega) (by omega)
  rw [hz1, show (((n : Int) + 80).toNat) = n + 80 by omega, Nat.mul_one, show (Value.int .u8 0).cells = #[.int .u8 0] from rfl, made_zero] at hmk
  obtain ⟨w1, hw1, HB⟩ : ∃ w1, w.alloc (.cells (u8s (List.replicate (n + 80) 0)).toArray 5) = w1 ∧ Hid (Blk w1 w.heap.size 5 (u8s (List.replicate (n + 80) 0)) ∧ Below w.heap.size w w1 ∧ w1.heap.size = w.heap.size + 1) := ⟨_, rfl, ⟨heap_alloc_new w _, (Below.refl _ _).alloc (Nat.le_refl _) _, by simp⟩⟩
  rw [hw1] at hmk
  clear hw1 hx hi hz0 hz1 hz2
  go_enter Tryd.func19, Tryd.ntmps19
  go_wp2
  go_loopw [4] (fun i wr => ∃ k : Nat, k ≤ n + 80 ∧ i = .int .i64 k ∧ Blk wr w.heap.size 5 (u8s ((spared zs).take k ++ List.replicate (n + 80 - k) 0)) ∧ Kept (fun b => b = w.heap.size) w1 wr ∧ wr.heap.size = w.heap.size + 1) (fun i _ => n + 80 - (intOf i).toNat)
  case atStart => exact ⟨0, Nat.zero_le _, rfl, HB.out.1, Kept.refl _ _, HB.out.2.2⟩
  case round =>
    obtain ⟨k, hk, rfl, hb, hkp, hws⟩ := hrel
    have hsl := spared_length zs
    have hl := HL.out
    by_cases hlt : k < n + 80
    · have cs := u8s_cell hb k (by simp [hsl]; omega)
      have fs := hb.frozen k
      have i1 : (0 : Int) ≤ (k : Int) := by omega
      have i2 : (k : Int) < (n : Int) + 80 := by omega
      have HT := take_next (spared zs) k (by omega) (n + 80 - (k + 1))
      rw [show n + 80 - (k + 1) + 1 = n + 80 - k by omega] at HT
      have HE : Hid (((spared zs).take k ++ List.replicate (n + 80 - k) 0).set k ((spared zs).getD k 0) = (spared zs).take (k + 1) ++ List.replicate (n + 80 - (k + 1)) 0) := HT
      have X0 : Hid (Blk wr w.heap.size 5 (u8s ((spared zs).take k ++ List.replicate (n + 80 - k) 0)) ∧ Kept (fun b => b = w.heap.size) w1 wr ∧ wr.heap.size = w.heap.size + 1) := ⟨hb, hkp, hws⟩
      by_cases hin : k < n
      · obtain ⟨b, o, rfl, hbl, hc⟩ := HX.out.cells (by omega)
        have c1 : wr.cell? ⟨b, o + k, none⟩ = some (.int .u8 (zs.getD k 0)) := (hkp.cell (p := ⟨b, o + k, none⟩) (by show b < _; have := HB.out.2.2; omega) (by show ¬ b = _; omega)).trans ((HB.out.2.1.cell (p := ⟨b, o + k, none⟩) hbl).trans (hc k hin))
        have HV : Hid ((spared zs).getD k 0 = zs.getD k 0) := spared_front zs k (by omega)
        obtain ⟨Z, hZ⟩ : ∃ Z, zs.getD k 0 = Z := ⟨_, rfl⟩
        rw [hZ] at c1 HV
        have i3 : (k : Int) < (n : Int) := by omega
        clear hb hkp hZ hc HT hsl hl hws
        go_wp2
        have R1 := X0.out.1.set k (.int .u8 Z)
        rw [u8s_set, ← HV.out, HE.out, HV.out] at R1
        exact ⟨⟨k + 1, by omega, by go_num, R1, X0.out.2.1.setCell (S := fun b => b = w.heap.size) rfl _, by have := X0.out.2.2; simpa [World.setCell] using this⟩, by simp [intOf]; omega⟩
      · have HV : Hid ((spared zs).getD k 0 = markB k) := spared_mark zs k (by omega) (by omega)
        have i3 : ¬ (k : Int) < (n : Int) := by omega
        clear hb hkp HT hsl hl hws
        go_wp2
        have R1 := X0.out.1.set k (.int .u8 (markB k))
        rw [u8s_set, ← HV.out, HE.out, HV.out] at R1
        exact ⟨⟨k + 1, by omega, by go_num, R1, X0.out.2.1.setCell (S := fun b => b = w.heap.size) rfl _, by have := X0.out.2.2; simpa [World.setCell] using this⟩, by simp [intOf]; omega⟩
    · obtain rfl : k = n + 80 := by omega
      rw [Nat.sub_self, List.replicate_zero, List.append_nil, List.take_of_length_le (by omega)] at hb
      have X3 : Hid (Blk wr w.heap.size 5 (u8s (spared zs)) ∧ wr.heap.size = w.heap.size + 1 ∧ Below w.heap.size w wr) := ⟨hb, hws, below_kept HB.out.2.1 hkp HB.out.2.1.size (fun j hj => by omega)⟩
      clear hb hkp hws hsl hl
      go_wp2
      go_ret
      exact ⟨rfl, X3.out.1, X3.out.2.1, X3.out.2.2⟩
set_option maxHeartbeats 1000000 in
set_option maxRecDepth 20000 in
theorem kept_big (g : Nat) (bo : Option Addr) (n d : Nat) (zs : List Int) (w : World) (hx : Blk w g 5 (u8s (spared zs))) (hy : Seen w bo n zs) (hn : n ≤ 140737488351232) :
    Calls Tryd.prog 43 #[.slice (some ⟨g, 0, none⟩) n (n + 80), .slice bo n d] w fun e w' => e = .returned (.bool true) ∧ ∃ q, w' = w.drewN q := by
  have hl := hy.len
  have S1 : Hid (Seen w (some ⟨g, 0, none⟩) n zs) := by
    have := spared_big hx hy.bytes (by omega)
    rwa [hl] at this
  have HY : Hid (Seen w bo n zs ∧ Blk w g 5 (u8s (spared zs)) ∧ zs.length = n) := ⟨hy, hx, hl⟩
  clear hx hy hl
  go_enter Tryd.func43, Tryd.ntmps43
  go_wp2_with fail
  refine (eqb_yes _ bo n (n + 80) d zs w S1.out HY.out.1).mono ?_
  rintro e w1 ⟨rfl, q, rfl⟩
  go_wp2
  go_loopw [6] (fun i wr => ∃ k : Nat, n ≤ k ∧ k ≤ n + 80 ∧ i = .int .i64 k ∧ ∃ q, wr = w.drewN q) (fun i _ => n + 80 - (intOf i).toNat)
  case atStart => exact ⟨n, Nat.le_refl _, by omega, rfl, q, rfl⟩
  case round =>
    obtain ⟨k, hk0, hk, rfl, q, rfl⟩ := hrel
    by_cases hlt : k < n + 80
    · have c1 : (w.drewN q).cell? ⟨g, k, none⟩ = some (.int .u8 (markB k)) := by
        have := u8s_cell HY.out.2.1 k (by rw [spared_length, HY.out.2.2]; omega)
        rw [spared_mark zs k (by rw [HY.out.2.2]; exact hk0) (by rw [HY.out.2.2]; exact hlt)] at this
        exact this
      rw [markB] at c1
      have i1 : (0 : Int) ≤ (k : Int) := by omega
      have i2 : (k : Int) < (n : Int) + 80 := by omega
      go_wp2
      exact ⟨⟨k + 1, by omega, by omega, by go_num, q, rfl⟩, by simp [intOf]; omega⟩
    · obtain rfl : k = n + 80 := by omega
      go_wp2
      go_ret
      exact ⟨rfl, q, rfl⟩
theorem spared_set (us : List Int) (k : Nat) (z : Int) (hk : k < us.length) : (spared us).set k z = spared (us.set k z) := by
  rw [spared, spared, List.set_append_left _ _ hk, List.length_set]
theorem cell_three (w : World) (x y z : Value) (t : TypeId) (j : Nat) (hj : j < 3) : (w.alloc (.cells #[x, y, z] t)).cell? ⟨w.heap.size, j, none⟩ = some ([x, y, z].getD j undef) := by
  have h : (w.alloc (.cells #[x, y, z] t)).heap[w.heap.size]? = some (.cells [x, y, z].toArray t (0, 0)) := heap_alloc_new w _
  rw [cell_of_row _ _ j _ t (0, 0) h]
  rcases (by omega : j = 0 ∨ j = 1 ∨ j = 2) with rfl | rfl | rfl <;> rfl
/-- The three rows, as a lot. -/
theorem lot3 {W : World} {o1 o2 o3 : Option Addr} {n c1 c2 c3 a1 b1 a2 b2 a3 b3 : Nat} {L1 L2 L3 : List Int} (h1 : Out W a1 b1 o1 n c1 L1) (h2 : Out W a2 b2 o2 n c2 L2) (h3 : Out W a3 b3 o3 n c3 L3) (e1 : b1 ≤ a2) (e2 : b2 ≤ a3) (i1 : a1 ≤ b1) (i2 : a2 ≤ b2) (i3 : a3 ≤ b3) (he : b3 ≤ W.heap.size) :
    Lot (W.alloc (.cells #[.slice o1 n c1, .slice o2 n c2, .slice o3 n c3] 24)) W.heap.size 3 (fun j => [o1, o2, o3].getD j none) (fun j => [n, n, n].getD j 0) (fun j => [c1, c2, c3].getD j 0) (fun j => [c1, c2, c3].getD j 0) (fun j => [L1, L2, L3].getD j []) ∧
    ∀ y, LotS 3 (fun j => [o1, o2, o3].getD j none) y → (a1 ≤ y ∧ y < b1) ∨ (a2 ≤ y ∧ y < b2) ∨ (a3 ≤ y ∧ y < b3) := by
  have l := (Below.refl W.heap.size W).alloc (Nat.le_refl _) (.cells #[.slice o1 n c1, .slice o2 n c2, .slice o3 n c3] 24)
  have hp : ∀ j g, j < 3 → [o1, o2, o3].getD j none = some ⟨g, 0, none⟩ → [a1, a2, a3].getD j 0 ≤ g ∧ g < [b1, b2, b3].getD j 0 := by
    intro j g hj e1
    rcases (by omega : j = 0 ∨ j = 1 ∨ j = 2) with rfl | rfl | rfl
    · exact h1.place g 0 e1
    · exact h2.place g 0 e1
    · exact h3.place g 0 e1
  refine ⟨⟨World.block_lt_of_cell? _ _ (cell_three W _ _ _ _ 0 (by decide)), fun j hj => ?_, fun j hj => ?_, fun j hj => .inl rfl, fun j j' g hj hj' e1 e2 => ?_, fun j g hj e1 => ?_⟩, fun y ⟨j, hj, e1⟩ => ?_⟩
  · rw [cell_three _ _ _ _ _ j hj]
    rcases (by omega : j = 0 ∨ j = 1 ∨ j = 2) with rfl | rfl | rfl <;> rfl
  · rcases (by omega : j = 0 ∨ j = 1 ∨ j = 2) with rfl | rfl | rfl
    · exact (h1.later l).own
    · exact (h2.later l).own
    · exact (h3.later l).own
  · have p1 := hp j g hj e1
    have p2 := hp j' g hj' e2
    rcases (by omega : j = 0 ∨ j = 1 ∨ j = 2) with rfl | rfl | rfl <;> rcases (by omega : j' = 0 ∨ j' = 1 ∨ j' = 2) with rfl | rfl | rfl <;> first | rfl | (simp at p1 p2; omega)
  · have := hp j g hj e1
    rcases (by omega : j = 0 ∨ j = 1 ∨ j = 2) with rfl | rfl | rfl <;> simp at this <;> omega
  · have := hp j y hj e1
    rcases (by omega : j = 0 ∨ j = 1 ∨ j = 2) with rfl | rfl | rfl <;> simp at this <;> omega
end Go.Proofs.YtmgkjldjeomcmaaDoor
