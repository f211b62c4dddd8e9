/- The statements' helpers: Spare, EqBytes, Kept. -/
import Derived.Test.YtmgkjldjeomcmaaDoorDCopy
import Derived.Laws.OwnMore
namespace Go.Proofs.YtmgkjldjeomcmaaDoor
open Go.RowKit
set_option linter.unusedVariables false
set_option linter.unusedSimpArgs false

/-- The mark at a place of the room behind a list. -/
def markB (i : Nat) : Int := bits .xor .i64 165 (i : Int) % 256
def spared (zs : List Int) : List Int := zs ++ (List.range 80).map (fun j => markB (zs.length + j))
theorem spared_length (zs : List Int) : (spared zs).length = zs.length + 80 := by simp [spared]
theorem spared_front (zs : List Int) (i : Nat) (hi : i < zs.length) : (spared zs).getD i 0 = zs.getD i 0 := by
  simp [spared, List.getD, List.getElem?_append_left hi]
theorem spared_mark (zs : List Int) (i : Nat) (h1 : zs.length ≤ i) (h2 : i < zs.length + 80) : (spared zs).getD i 0 = markB i := by
  obtain ⟨j, rfl⟩ : ∃ j, i = zs.length + j := ⟨i - zs.length, by omega⟩
  have hj : j < 80 := by omega
  simp [spared, List.getD, hj]
theorem take_next (xs : List Int) (k : Nat) (hk : k < xs.length) (n : Nat) : (xs.take k ++ List.replicate (n + 1) 0).set k (xs.getD k 0) = xs.take (k + 1) ++ List.replicate n 0 := by
  have e : (xs.take k).length = k := by simp; omega
  have h := set_next (xs.take k) n (xs.getD k 0) 0
  rw [e] at h
  rw [h, List.take_succ_eq_append_getElem hk]
  simp [List.getD, hk]
theorem made_zero (n : Nat) : (madeCells #[Value.int .u8 0] n) = (u8s (List.replicate n 0)).toArray := by
  apply Array.ext'
  rw [toList_madeCells_one]
  simp [u8s]
set_option maxHeartbeats 1000000 in
set_option maxRecDepth 20000 in
theorem spare_any (ao : Option Addr) (n c : Nat) (zs : List Int) (w : World) (hx : Seen w ao n zs) (hn : n ≤ 35184372088832) :
    Calls Tryd.prog 19 #[.slice ao n c] w fun e w' => e = .returned (.slice (some ⟨w.heap.size, 0, none⟩) n (n + 80)) ∧ Blk w' w.heap.size 5 (u8s (spared zs)) ∧ w'.heap.size = w.heap.size + 1 ∧ Below w.heap.size w w' := by
  have HL : Hid (zs.length = n) := hx.len
  have HX : Hid (Seen w ao n zs) := hx
  obtain ⟨i0, hi, hz0, hz1, hz2⟩ := info_parts info_byte
  have hmk := run_make (P := Tryd.prog) w 24 5 i0 (.int .u8 0) Tryd.underlying24 hi hz0 .i64 .i64 ((n : Int) + 80) ((n : Int) + 80) (by omega) (Int.le_refl _) (by rw [hz2]; omega) (by omega)
  rw [hz1, show (((n : Int) + 80).toNat) = n + 80 by omega, Nat.mul_one, show (Value.int .u8 0).cells = #[.int .u8 0] from rfl, made_zero] at hmk
  obtain ⟨w1, hw1, HB⟩ : ∃ w1, w.alloc (.cells (u8s (List.replicate (n + 80) 0)).toArray 5) = w1 ∧ Hid (Blk w1 w.heap.size 5 (u8s (List.replicate (n + 80) 0)) ∧ Below w.heap.size w w1 ∧ w1.heap.size = w.heap.size + 1) := ⟨_, rfl, ⟨heap_alloc_new w _, (Below.refl _ _).alloc (Nat.le_refl _) _, by simp⟩⟩
  rw [hw1] at hmk
  clear hw1 hx hi hz0 hz1 hz2
  go_enter Tryd.func19, Tryd.ntmps19
  go_wp2
  go_loopw [4] (fun i wr => ∃ k : Nat, k ≤ n + 80 ∧ i = .int .i64 k ∧ Blk wr w.heap.size 5 (u8s ((spared zs).take k ++ List.replicate (n + 80 - k) 0)) ∧ Kept (fun b => b = w.heap.size) w1 wr ∧ wr.heap.size = w.heap.size + 1) (fun i _ => n + 80 - (intOf i).toNat)
  case atStart => exact ⟨0, Nat.zero_le _, rfl, HB.out.1, Kept.refl _ _, HB.out.2.2⟩
  case round =>
    obtain ⟨k, hk, rfl, hb, hkp, hws⟩ := hrel
    have hsl := spared_length zs
    have hl := HL.out
    by_cases hlt : k < n + 80
    · have cs := u8s_cell hb k (by simp [hsl]; omega)
      have fs := hb.frozen k
      have i1 : (0 : Int) ≤ (k : Int) := by omega
      have i2 : (k : Int) < (n : Int) + 80 := by omega
      have HT := take_next (spared zs) k (by omega) (n + 80 - (k + 1))
      rw [show n + 80 - (k + 1) + 1 = n + 80 - k by omega] at HT
      have HE : Hid (((spared zs).take k ++ List.replicate (n + 80 - k) 0).set k ((spared zs).getD k 0) = (spared zs).take (k + 1) ++ List.replicate (n + 80 - (k + 1)) 0) := HT
      have X0 : Hid (Blk wr w.heap.size 5 (u8s ((spared zs).take k ++ List.replicate (n + 80 - k) 0)) ∧ Kept (fun b => b = w.heap.size) w1 wr ∧ wr.heap.size = w.heap.size + 1) := ⟨hb, hkp, hws⟩
      by_cases hin : k < n
      · obtain ⟨b, o, rfl, hbl, hc⟩ := HX.out.cells (by omega)
        have c1 : wr.cell? ⟨b, o + k, none⟩ = some (.int .u8 (zs.getD k 0)) := (hkp.cell (p := ⟨b, o + k, none⟩) (by show b < _; have := HB.out.2.2; omega) (by show ¬ b = _; omega)).trans ((HB.out.2.1.cell (p := ⟨b, o + k, none⟩) hbl).trans (hc k hin))
        have HV : Hid ((spared zs).getD k 0 = zs.getD k 0) := spared_front zs k (by omega)
        obtain ⟨Z, hZ⟩ : ∃ Z, zs.getD k 0 = Z := ⟨_, rfl⟩
        rw [hZ] at c1 HV
        have i3 : (k : Int) < (n : Int) := by omega
        clear hb hkp hZ hc HT hsl hl hws
        go_wp2
        have R1 := X0.out.1.set k (.int .u8 Z)
        rw [u8s_set, ← HV.out, HE.out, HV.out] at R1
        exact ⟨⟨k + 1, by omega, by go_num, R1, X0.out.2.1.setCell (S := fun b => b = w.heap.size) rfl _, by have := X0.out.2.2; simpa [World.setCell] using this⟩, by simp [intOf]; omega⟩
      · have HV : Hid ((spared zs).getD k 0 = markB k) := spared_mark zs k (by omega) (by omega)
        have i3 : ¬ (k : Int) < (n : Int) := by omega
        clear hb hkp HT hsl hl hws
        go_wp2
        have R1 := X0.out.1.set k (.int .u8 (markB k))
        rw [u8s_set, ← HV.out, HE.out, HV.out] at R1
        exact ⟨⟨k + 1, by omega, by go_num, R1, X0.out.2.1.setCell (S := fun b => b = w.heap.size) rfl _, by have := X0.out.2.2; simpa [World.setCell] using this⟩, by simp [intOf]; omega⟩
    · obtain rfl : k = n + 80 := by omega
      rw [Nat.sub_self, List.replicate_zero, List.append_nil, List.take_of_length_le (by omega)] at hb
      have X3 : Hid (Blk wr w.heap.size 5 (u8s (spared zs)) ∧ wr.heap.size = w.heap.size + 1 ∧ Below w.heap.size w wr) := ⟨hb, hws, below_kept HB.out.2.1 hkp HB.out.2.1.size (fun j hj => by omega)⟩
      clear hb hkp hws hsl hl
      go_wp2
      go_ret
      exact ⟨rfl, X3.out.1, X3.out.2.1, X3.out.2.2⟩
set_option maxHeartbeats 1000000 in
set_option maxRecDepth 20000 in
theorem eqb_yes (ao bo : Option Addr) (n c d : Nat) (zs : List Int) (w : World) (hx : Seen w ao n zs) (hy : Seen w bo n zs) :
    Calls Tryd.prog 12 #[.slice ao n c, .slice bo n d] w fun e w' => e = .returned (.bool true) ∧ ∃ q, w' = w.drewN q := by
  have t1 := hx.top
  go_enter Tryd.func12, Tryd.ntmps12
  go_wp2
  go_loopw [5] (fun i wr => ∃ k : Nat, k ≤ n ∧ i = .int .i64 k ∧ ∃ q, wr = w.drewN q) (fun i _ => n - (intOf i).toNat)
  case atStart => exact ⟨0, Nat.zero_le _, rfl, 0, rfl⟩
  case round =>
    obtain ⟨k, hk, rfl, q, rfl⟩ := hrel
    by_cases hlt : k < n
    · obtain ⟨b, o, rfl, hb, hc⟩ := hx.cells (by omega)
      obtain ⟨b2, o2, rfl, hb2, hc2⟩ := hy.cells (by omega)
      have c1 : (w.drewN q).cell? ⟨b, o + k, none⟩ = some (.int .u8 (zs.getD k 0)) := hc k hlt
      have c2 : (w.drewN q).cell? ⟨b2, o2 + k, none⟩ = some (.int .u8 (zs.getD k 0)) := hc2 k hlt
      obtain ⟨Z, hZ⟩ : ∃ Z, zs.getD k 0 = Z := ⟨_, rfl⟩
      rw [hZ] at c1 c2
      obtain ⟨wr, hwr⟩ : ∃ wr, w.drewN q = wr := ⟨_, rfl⟩
      rw [hwr] at c1 c2 ⊢
      have HW : Hid (w.drewN q = wr) := hwr
      have i1 : (0 : Int) ≤ (k : Int) := by omega
      have i2 : (k : Int) < (n : Int) := by omega
      clear hZ hc hc2 hx hy hwr
      go_wp2
      go_quiet (fail)
      go_wp2
      refine ⟨⟨k + 1, by omega, by go_num, q + nq, ?_⟩, by simp [intOf]; omega⟩
      rw [← HW.out, World.drewN_drewN]
    · obtain rfl : k = n := by omega
      clear hx hy
      go_wp2
      go_ret
      exact ⟨rfl, q, rfl⟩
/-- A list with marked room, as data. -/
theorem spared_seen {w : World} {g : Nat} {zs : List Int} (h : Blk w g 5 (u8s (spared zs))) (hb : Bytes zs) (ht : zs.length ≤ 35184372088832) : Seen w (some ⟨g, 0, none⟩) zs.length zs :=
  ⟨rfl, by omega, hb, fun _ => ⟨g, 0, rfl, h.lt, fun i hi => by rw [Nat.zero_add, u8s_cell h i (by rw [spared_length]; omega), spared_front zs i hi]⟩⟩
set_option maxHeartbeats 1000000 in
set_option maxRecDepth 20000 in
theorem kept_yes (g : Nat) (bo : Option Addr) (n d : Nat) (zs : List Int) (w : World) (hx : Blk w g 5 (u8s (spared zs))) (hy : Seen w bo n zs) (hn : n ≤ 35184372088832) :
    Calls Tryd.prog 43 #[.slice (some ⟨g, 0, none⟩) n (n + 80), .slice bo n d] w fun e w' => e = .returned (.bool true) ∧ ∃ q, w' = w.drewN q := by
  have hl := hy.len
  have S1 : Hid (Seen w (some ⟨g, 0, none⟩) n zs) := by
    have := spared_seen hx hy.bytes (by omega)
    rwa [hl] at this
  have HY : Hid (Seen w bo n zs ∧ Blk w g 5 (u8s (spared zs)) ∧ zs.length = n) := ⟨hy, hx, hl⟩
  clear hx hy hl
  go_enter Tryd.func43, Tryd.ntmps43
  go_wp2_with fail
  refine (eqb_yes _ bo n (n + 80) d zs w S1.out HY.out.1).mono ?_
  rintro e w1 ⟨rfl, q, rfl⟩
  go_wp2
  go_loopw [6] (fun i wr => ∃ k : Nat, n ≤ k ∧ k ≤ n + 80 ∧ i = .int .i64 k ∧ ∃ q, wr = w.drewN q) (fun i _ => n + 80 - (intOf i).toNat)
  case atStart => exact ⟨n, Nat.le_refl _, by omega, rfl, q, rfl⟩
  case round =>
    obtain ⟨k, hk0, hk, rfl, q, rfl⟩ := hrel
    by_cases hlt : k < n + 80
    · have c1 : (w.drewN q).cell? ⟨g, k, none⟩ = some (.int .u8 (markB k)) := by
        have := u8s_cell HY.out.2.1 k (by rw [spared_length, HY.out.2.2]; omega)
        rw [spared_mark zs k (by rw [HY.out.2.2]; exact hk0) (by rw [HY.out.2.2]; exact hlt)] at this
        exact this
      rw [markB] at c1
      have i1 : (0 : Int) ≤ (k : Int) := by omega
      have i2 : (k : Int) < (n : Int) + 80 := by omega
      go_wp2
      exact ⟨⟨k + 1, by omega, by omega, by go_num, q, rfl⟩, by simp [intOf]; omega⟩
    · obtain rfl : k = n + 80 := by omega
      go_wp2
      go_ret
      exact ⟨rfl, q, rfl⟩
end Go.Proofs.YtmgkjldjeomcmaaDoor
