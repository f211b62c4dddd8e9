/- The statements' helpers: SpareRows, KeptRows. -/
import Derived.Test.YtpphmodibbeomaaDoorDSpare
import Derived.Test.YtpphmodibbeomaaDoorDRows
namespace Go.Proofs.YtpphmodibbeomaaDoor
open Go.RowKit
set_option linter.unusedVariables false
set_option linter.unusedSimpArgs false

/-- The header at a place of a row that SpareRows made: block O holds the headers, the lists lie behind it, one by one. -/
def hdrAt (O n : Nat) (pss : List (List Int)) (i : Nat) : Value := if i < n then .slice (some ⟨O + 1 + i, 0, none⟩) (pss.getD i []).length ((pss.getD i []).length + 80) else .slice (some ⟨O + 1 + i, 0, none⟩) 2 2
def hdrs (O n : Nat) (pss : List (List Int)) (k : Nat) : List Value := (List.range k).map (hdrAt O n pss)
theorem hdrs_length (O n : Nat) (pss : List (List Int)) (k : Nat) : (hdrs O n pss k).length = k := by simp [hdrs]
theorem hdrs_succ (O n : Nat) (pss : List (List Int)) (k : Nat) : hdrs O n pss (k + 1) = hdrs O n pss k ++ [hdrAt O n pss k] := by simp [hdrs, List.range_succ]
theorem hdrs_at (O n : Nat) (pss : List (List Int)) (k i : Nat) (hi : i < k) : (hdrs O n pss k)[i]? = some (hdrAt O n pss i) := by simp [hdrs, hi]
def rowAt (n : Nat) (pss : List (List Int)) (i : Nat) : List Int := if i < n then spared (pss.getD i []) else [(i : Int) % 256, 119]
theorem made_nil (n : Nat) : (madeCells #[Value.slice none 0 0] n) = (List.replicate n (Value.slice none 0 0)).toArray := by
  apply Array.ext'
  rw [toList_madeCells_one]
theorem set_nextV (xs : List Value) (n : Nat) (z y : Value) : (xs ++ List.replicate (n + 1) y).set xs.length z = (xs ++ [z]) ++ List.replicate n y := by
  rw [List.set_append_right _ _ (Nat.le_refl _), Nat.sub_self, List.replicate_succ, List.set_cons_zero]; simp
/-- Lists with marked room, in a row of headers with marked room. -/
structure SpareL (w : World) (O n : Nat) (pss : List (List Int)) : Prop where
  len : pss.length = n
  hd : Blk w O 29 (hdrs O n pss (n + 3))
  row : ∀ i, i < n + 3 → Blk w (O + 1 + i) 5 (u8s (rowAt n pss i))
  ok : ∀ i, i < n → Bytes (pss.getD i []) ∧ (pss.getD i []).length ≤ 35184372088832
theorem SpareL.later {w w' : World} {O n : Nat} {pss : List (List Int)} (h : SpareL w O n pss) {B : Nat} (hb : Below B w w') (hB : w.heap.size ≤ B) : SpareL w' O n pss :=
  ⟨h.len, h.hd.later hb (Nat.lt_of_lt_of_le h.hd.lt hB), fun i hi => (h.row i hi).later hb (Nat.lt_of_lt_of_le (h.row i hi).lt hB), h.ok⟩
theorem SpareL.drewN {w : World} {O n : Nat} {pss : List (List Int)} (h : SpareL w O n pss) (q : Nat) : SpareL (w.drewN q) O n pss := ⟨h.len, h.hd, h.row, h.ok⟩
theorem SpareL.cell {w : World} {O n : Nat} {pss : List (List Int)} (h : SpareL w O n pss) (i : Nat) (hi : i < n + 3) : w.cell? ⟨O, i, none⟩ = some (hdrAt O n pss i) := by rw [h.hd.cell, hdrs_at _ _ _ _ _ hi]
theorem SpareL.data {w : World} {O n : Nat} {pss : List (List Int)} (h : SpareL w O n pss) : SeenP w (some ⟨O, 0, none⟩) n pss :=
  ⟨h.len, fun i hi => ⟨O, 0, some ⟨O + 1 + i, 0, none⟩, (pss.getD i []).length + 80, rfl, h.hd.lt, by rw [Nat.zero_add, h.cell i (by omega), hdrAt, if_pos hi], by
    have := h.row i (by omega)
    rw [rowAt, if_pos hi] at this
    exact spared_seen this (h.ok i hi).1 (h.ok i hi).2, by omega⟩⟩
set_option maxHeartbeats 1000000 in
set_option maxRecDepth 20000 in
theorem spareR_any (ao : Option Addr) (n c : Nat) (pss : List (List Int)) (w : World) (hx : SeenP w ao n pss) (hn : n ≤ 1048576) (hm : ∀ i, i < n → (pss.getD i []).length ≤ 35184372088832) :
    Calls Tryd.prog 8 #[.slice ao n c] w fun e w' => e = .returned (.slice (some ⟨w.heap.size, 0, none⟩) n (n + 3)) ∧ SpareL w' w.heap.size n pss ∧ w'.heap.size = w.heap.size + 1 + (n + 3) ∧ Below w.heap.size w w' := by
  have HX : Hid (SeenP w ao n pss ∧ ∀ i, i < n → (pss.getD i []).length ≤ 35184372088832) := ⟨hx, hm⟩
  obtain ⟨i0, hi, hz0, hz1, hz2⟩ := info_parts info_bytes
  have hmk := run_make (P := Tryd.prog) w 23 29 i0 (.slice none 0 0) Tryd.underlying23 hi hz0 .i64 .i64 ((n : Int) + 3) ((n : Int) + 3) (by omega) (Int.le_refl _) (by rw [hz2]; omega) (by omega)
  rw [hz1, show (((n : Int) + 3).toNat) = n + 3 by omega, Nat.mul_one, show (Value.slice none 0 0).cells = #[.slice none 0 0] from rfl, made_nil] at hmk
  obtain ⟨w1, hw1, HB⟩ : ∃ w1, w.alloc (.cells (List.replicate (n + 3) (Value.slice none 0 0)).toArray 29) = w1 ∧ Hid (Blk w1 w.heap.size 29 (List.replicate (n + 3) (Value.slice none 0 0)) ∧ Below w.heap.size w w1 ∧ w1.heap.size = w.heap.size + 1) := ⟨_, rfl, ⟨heap_alloc_new w _, (Below.refl _ _).alloc (Nat.le_refl _) _, by simp⟩⟩
  rw [hw1] at hmk
  clear hw1 hx hi hz0 hz1 hz2 hm
  go_enter Tryd.func8, Tryd.ntmps8
  go_wp2
  go_loopw [4] (fun i wr => ∃ k : Nat, k ≤ n + 3 ∧ i = .int .i64 k ∧ Blk wr w.heap.size 29 (hdrs w.heap.size n pss k ++ List.replicate (n + 3 - k) (Value.slice none 0 0)) ∧ (∀ j, j < k → Blk wr (w.heap.size + 1 + j) 5 (u8s (rowAt n pss j))) ∧ Below w.heap.size w wr ∧ wr.heap.size = w.heap.size + 1 + k) (fun i _ => n + 3 - (intOf i).toNat)
  case atStart => exact ⟨0, Nat.zero_le _, rfl, HB.out.1, fun j hj => by omega, HB.out.2.1, HB.out.2.2⟩
  case round =>
    obtain ⟨k, hk, rfl, hb, hrow, hbel, hws⟩ := hrel
    by_cases hlt : k < n + 3
    · have HT := set_nextV (hdrs w.heap.size n pss k) (n + 3 - (k + 1)) (hdrAt w.heap.size n pss k) (Value.slice none 0 0)
      rw [show n + 3 - (k + 1) + 1 = n + 3 - k by omega, hdrs_length, ← hdrs_succ] at HT
      have HE : Hid _ := HT
      have X0 : Hid (Blk wr w.heap.size 29 (hdrs w.heap.size n pss k ++ List.replicate (n + 3 - k) (Value.slice none 0 0)) ∧ (∀ j, j < k → Blk wr (w.heap.size + 1 + j) 5 (u8s (rowAt n pss j))) ∧ Below w.heap.size w wr ∧ wr.heap.size = w.heap.size + 1 + k) := ⟨hb, hrow, hbel, hws⟩
      have i1 : (0 : Int) ≤ (k : Int) := by omega
      have i2 : (k : Int) < (n : Int) + 3 := by omega
      by_cases hin : k < n
      · obtain ⟨b, o, so, cs, rfl, hbl, hc, hs, hl⟩ := HX.out.1.cells k hin
        have c1 := (hbel.cell (p := ⟨b, o + k, none⟩) hbl).trans hc
        have S1 : Hid (Seen wr so (pss.getD k []).length (pss.getD k []) ∧ (pss.getD k []).length ≤ 35184372088832) := ⟨hs.later hbel (Nat.le_refl _), HX.out.2 k hin⟩
        have HV : Hid (hdrAt w.heap.size n pss k = .slice (some ⟨w.heap.size + 1 + k, 0, none⟩) (pss.getD k []).length ((pss.getD k []).length + 80) ∧ rowAt n pss k = spared (pss.getD k [])) := ⟨by rw [hdrAt, if_pos hin], by rw [rowAt, if_pos hin]⟩
        obtain ⟨p, hp⟩ : ∃ p, pss.getD k [] = p := ⟨_, rfl⟩
        rw [hp] at c1 S1 HV
        have i3 : (k : Int) < (n : Int) := by omega
        clear hb hrow hbel hws hp hc hs hl HT
        go_wp2_with fail
        refine (spare_any so p.length cs p wr S1.out.1 S1.out.2).mono ?_
        rintro e w2 ⟨rfl, b2, s2, l2⟩
        rw [X0.out.2.2.2] at b2 ⊢
        have h2 := X0.out.1.later l2 (by have := X0.out.2.2.2; omega)
        have cs2 : w2.cell? ⟨w.heap.size, k, none⟩ = some (.slice none 0 0) := by
          rw [h2.cell, List.getElem?_append_right (by rw [hdrs_length]; exact Nat.le_refl _), hdrs_length, Nat.sub_self]
          rw [List.getElem?_replicate, if_pos (by omega)]
        have fs2 := h2.frozen k
        have X2 : Hid (Blk w2 w.heap.size 29 (hdrs w.heap.size n pss k ++ List.replicate (n + 3 - k) (Value.slice none 0 0)) ∧ (∀ j, j < k + 1 → Blk w2 (w.heap.size + 1 + j) 5 (u8s (rowAt n pss j))) ∧ Below w.heap.size w w2 ∧ w2.heap.size = w.heap.size + 1 + (k + 1)) := by
          refine ⟨h2, fun j hj => ?_, below_chain X0.out.2.2.1 l2 X0.out.2.2.1.size, by have := X0.out.2.2.2; omega⟩
          by_cases hjk : j < k
          · exact (X0.out.2.1 j hjk).later l2 (X0.out.2.1 j hjk).lt
          · obtain rfl : j = k := by omega
            rw [HV.out.2]; exact b2
        clear b2 s2 l2 h2
        go_wp2
        have R1 := X2.out.1.set k (hdrAt w.heap.size n pss k)
        rw [HE.out, HV.out.1] at R1
        exact ⟨⟨k + 1, by omega, by go_num, R1, fun j hj => (X2.out.2.1 j hj).other (by show _ ≠ w.heap.size; omega) _, below_kept X2.out.2.2.1 ((Kept.refl _ _).setCell (S := fun b => b = w.heap.size) rfl _) X2.out.2.2.1.size (fun j hj => by omega), by have := X2.out.2.2.2; simpa [World.setCell] using this⟩, by simp [intOf]; omega⟩
      · have HV : Hid (hdrAt w.heap.size n pss k = .slice (some ⟨w.heap.size + 1 + k, 0, none⟩) 2 2 ∧ rowAt n pss k = [(k : Int) % 256, 119]) := ⟨by rw [hdrAt, if_neg hin], by rw [rowAt, if_neg hin]⟩
        have i3 : ¬ (k : Int) < (n : Int) := by omega
        obtain ⟨w2, hw2, X2⟩ : ∃ w2, wr.alloc (.cells #[.int .u8 ((k : Int) % 256), .int .u8 119] 5) = w2 ∧ Hid (Blk w2 w.heap.size 29 (hdrs w.heap.size n pss k ++ List.replicate (n + 3 - k) (Value.slice none 0 0)) ∧ (∀ j, j < k + 1 → Blk w2 (w.heap.size + 1 + j) 5 (u8s (rowAt n pss j))) ∧ Below w.heap.size w w2 ∧ w2.heap.size = w.heap.size + 1 + (k + 1)) := by
          have l2 : Below wr.heap.size wr (wr.alloc (.cells #[.int .u8 ((k : Int) % 256), .int .u8 119] 5)) := (Below.refl _ _).alloc (Nat.le_refl _) _
          refine ⟨_, rfl, hb.later l2 (by omega), fun j hj => ?_, below_chain hbel l2 hbel.size, by simp; omega⟩
          by_cases hjk : j < k
          · exact (hrow j hjk).later l2 (hrow j hjk).lt
          · obtain rfl : j = k := by omega
            rw [HV.out.2, ← hws]
            exact heap_alloc_new wr _
        have cs2 : w2.cell? ⟨w.heap.size, k, none⟩ = some (.slice none 0 0) := by
          rw [X2.out.1.cell, List.getElem?_append_right (by rw [hdrs_length]; exact Nat.le_refl _), hdrs_length, Nat.sub_self]
          rw [List.getElem?_replicate, if_pos (by omega)]
        have fs2 := X2.out.1.frozen k
        have hbs : ∀ W v, (Instr.buildSlice 29 2 #[(0, v), (1, .int .u8 119)]).run Tryd.prog W = .ok (.slice (some ⟨W.heap.size, 0, none⟩) 2 2) (W.alloc (.cells #[v, .int .u8 119] 5)) → True := fun _ _ _ => trivial
        clear hbs hb hrow hbel HT
        go_wp2_with fail
        have R1 := X2.out.1.set k (hdrAt w.heap.size n pss k)
        rw [HE.out, HV.out.1] at R1
        exact ⟨⟨k + 1, by omega, by go_num, R1, fun j hj => (X2.out.2.1 j hj).other (by show _ ≠ w.heap.size; omega) _, below_kept X2.out.2.2.1 ((Kept.refl _ _).setCell (S := fun b => b = w.heap.size) rfl _) X2.out.2.2.1.size (fun j hj => by omega), by have := X2.out.2.2.2; simpa [World.setCell] using this⟩, by simp [intOf]; omega⟩
    · obtain rfl : k = n + 3 := by omega
      rw [Nat.sub_self, List.replicate_zero, List.append_nil] at hb
      have X3 : Hid (SpareL wr w.heap.size n pss ∧ wr.heap.size = w.heap.size + 1 + (n + 3) ∧ Below w.heap.size w wr) := ⟨⟨HX.out.1.len, hb, hrow, fun i hi => by
        obtain ⟨_, _, _, _, _, _, _, hs, _⟩ := HX.out.1.cells i hi
        exact ⟨hs.bytes, HX.out.2 i hi⟩⟩, hws, hbel⟩
      clear hb hrow hbel hws
      go_wp2
      go_ret
      exact ⟨rfl, X3.out.1, X3.out.2.1, X3.out.2.2⟩
set_option maxHeartbeats 1000000 in
set_option maxRecDepth 20000 in
theorem keptR_yes (O : Nat) (bo : Option Addr) (n d : Nat) (pss : List (List Int)) (w : World) (hx : SpareL w O n pss) (hy : SeenP w bo n pss) (hn : n ≤ 1048576) :
    Calls Tryd.prog 12 #[.slice (some ⟨O, 0, none⟩) n (n + 3), .slice bo n d] w fun e w' => e = .returned (.bool true) ∧ ∃ q, w' = w.drewN q := by
  have HX : Hid (SpareL w O n pss ∧ SeenP w bo n pss) := ⟨hx, hy⟩
  clear hx hy
  go_enter Tryd.func12, Tryd.ntmps12
  go_wp2
  go_loopw [5] (fun i wr => ∃ k : Nat, k ≤ n ∧ i = .int .i64 k ∧ ∃ q, wr = w.drewN q) (fun i _ => n - (intOf i).toNat)
  case atStart => exact ⟨0, Nat.zero_le _, rfl, 0, rfl⟩
  case round =>
    obtain ⟨k, hk, rfl, q, rfl⟩ := hrel
    by_cases hlt : k < n
    · obtain ⟨b, o, so, cs, rfl, hb, hc, hs, hl⟩ := HX.out.2.cells k hlt
      have c2 : (w.drewN q).cell? ⟨b, o + k, none⟩ = some (.slice so (pss.getD k []).length cs) := hc
      have c1 : (w.drewN q).cell? ⟨O, k, none⟩ = some (.slice (some ⟨O + 1 + k, 0, none⟩) (pss.getD k []).length ((pss.getD k []).length + 80)) := by
        have := HX.out.1.cell k (by omega)
        rw [hdrAt, if_pos hlt] at this
        exact this
      have hK : ∀ Q, Calls Tryd.prog 27 #[.slice (some ⟨O + 1 + k, 0, none⟩) (pss.getD k []).length ((pss.getD k []).length + 80), .slice so (pss.getD k []).length cs] (w.drewN Q) fun e w' => e = .returned (.bool true) ∧ ∃ q, w' = (w.drewN Q).drewN q := fun Q => by
        have hr := HX.out.1.row k (by omega)
        rw [rowAt, if_pos hlt] at hr
        exact kept_yes _ so _ cs _ (w.drewN Q) (hr.drewN Q) (hs.drewN Q) (HX.out.1.ok k hlt).2
      obtain ⟨p, hp⟩ : ∃ p, pss.getD k [] = p := ⟨_, rfl⟩
      rw [hp] at c1 c2 hK
      obtain ⟨wr, hwr⟩ : ∃ wr, w.drewN q = wr := ⟨_, rfl⟩
      have hK2 : ∀ Q, Calls Tryd.prog 27 #[.slice (some ⟨O + 1 + k, 0, none⟩) p.length (p.length + 80), .slice so p.length cs] (wr.drewN Q) fun e w' => e = .returned (.bool true) ∧ ∃ q, w' = (wr.drewN Q).drewN q := fun Q => by
        rw [← hwr, World.drewN_drewN]; exact hK _
      rw [hwr] at c1 c2 ⊢
      have HW : Hid (w.drewN q = wr) := hwr
      have i1 : (0 : Int) ≤ (k : Int) := by omega
      have i2 : (k : Int) < (n : Int) := by omega
      have HK2 : Hid (∀ Q, Calls Tryd.prog 27 #[.slice (some ⟨O + 1 + k, 0, none⟩) p.length (p.length + 80), .slice so p.length cs] (wr.drewN Q) fun e w' => e = .returned (.bool true) ∧ ∃ q, w' = (wr.drewN Q).drewN q) := hK2
      clear hc hs hl hp hwr hK hK2
      go_wp2
      go_quiet (first | (go_at_call 27; exact Calls.quiet_of (HK2.out _)))
      go_wp2
      refine ⟨⟨k + 1, by omega, by go_num, q + nq, ?_⟩, by simp [intOf]; omega⟩
      rw [← HW.out, World.drewN_drewN]
    · obtain rfl : k = n := by omega
      go_wp2
      go_loopw [7] (fun i wr => ∃ j : Nat, k ≤ j ∧ j ≤ k + 3 ∧ i = .int .i64 j ∧ ∃ q, wr = w.drewN q) (fun i _ => k + 3 - (intOf i).toNat)
      case atStart => exact ⟨k, Nat.le_refl _, by omega, rfl, q, rfl⟩
      case round =>
        obtain ⟨j, hj0, hj, rfl, q2, rfl⟩ := hrel
        by_cases hlt2 : j < k + 3
        · have c1 : (w.drewN q2).cell? ⟨O, j, none⟩ = some (.slice (some ⟨O + 1 + j, 0, none⟩) 2 2) := by
            have := HX.out.1.cell j hlt2
            rw [hdrAt, if_neg (by omega)] at this
            exact this
          have hr := HX.out.1.row j hlt2
          rw [rowAt, if_neg (by omega)] at hr
          have d0 : (w.drewN q2).cell? ⟨O + 1 + j, 0, none⟩ = some (.int .u8 ((j : Int) % 256)) := u8s_cell hr 0 (by simp)
          have d1 : (w.drewN q2).cell? ⟨O + 1 + j, 1, none⟩ = some (.int .u8 119) := u8s_cell hr 1 (by simp)
          have i1 : (0 : Int) ≤ (j : Int) := by omega
          have i2 : (j : Int) < (k : Int) + 3 := by omega
          clear hr
          go_wp2
          exact ⟨⟨j + 1, by omega, by omega, by go_num, q2, rfl⟩, by simp [intOf]; omega⟩
        · obtain rfl : j = k + 3 := by omega
          go_wp2
          go_ret
          exact ⟨rfl, q2, rfl⟩
end Go.Proofs.YtpphmodibbeomaaDoor
