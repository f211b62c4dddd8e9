/- Layer mask and the document's own lists: Same, Before, read only. -/
import Derived.Test.YtldfbbgboelngabWorks
import Derived.Test.YtldfbbgboelngabListPlain
import Derived.Deep.QuietTactic
import Derived.BigQuiet
import Derived.OpenShut
namespace Go.Proofs.Ytldfbbgboelngab
open Go.RowKit
set_option linter.unusedVariables false

theorem ret_bool {a b : Bool} (h : a = b) : Ending.returned (.bool a) = .returned (.bool b) := by rw [h]

/-- A slice at ao of n bytes, which are zs. -/
structure Seen (w : World) (ao : Option Addr) (n : Nat) (zs : List Int) : Prop where
  len : zs.length = n
  top : n ≤ 140737488355328
  bytes : Bytes zs
  cells : 0 < n → ∃ b o, ao = some ⟨b, o, none⟩ ∧ b < w.heap.size ∧ ∀ i, i < n → w.cell? ⟨b, o + i, none⟩ = some (.int .u8 (zs.getD i 0))
theorem Seen.later {w w' : World} {ao : Option Addr} {n : Nat} {zs : List Int} (h : Seen w ao n zs) {B : Nat} (hb : Below B w w') (hB : w.heap.size ≤ B) : Seen w' ao n zs :=
  ⟨h.len, h.top, h.bytes, fun hn => by
    obtain ⟨b, o, e, hlt, hc⟩ := h.cells hn
    exact ⟨b, o, e, Nat.lt_of_lt_of_le hlt hb.size, fun i hi => (hb.cell (p := ⟨b, o + i, none⟩) (Nat.lt_of_lt_of_le hlt hB)).trans (hc i hi)⟩⟩
theorem Seen.heap {w w' : World} {ao : Option Addr} {n : Nat} {zs : List Int} (h : Seen w ao n zs) (e : w'.heap = w.heap) : Seen w' ao n zs :=
  h.later (B := w.heap.size + w'.heap.size) (w' := { w with heap := w'.heap }) ⟨rfl, rfl, rfl, by simp [e], fun k _ => by simp [e]⟩ (Nat.le_add_right _ _) |> fun g => ⟨g.len, g.top, g.bytes, g.cells⟩
theorem Seen.drewN {w : World} {ao : Option Addr} {n : Nat} {zs : List Int} (h : Seen w ao n zs) (k : Nat) : Seen (w.drewN k) ao n zs := ⟨h.len, h.top, h.bytes, h.cells⟩
theorem Seen.of_row {w : World} {g n : Nat} {zs : List Int} (h : RowAt w g zs) (hl : n ≤ zs.length) (ht : n ≤ 140737488355328) (hb : Bytes zs) : Seen w (some ⟨g, 0, none⟩) n (zs.take n) :=
  ⟨by simp; omega, ht, fun z hz => hb z (List.mem_of_mem_take hz), fun _ => ⟨g, 0, rfl, h.lt, fun i hi => by
    rw [Nat.zero_add, h.cell i (by omega)]
    simp [List.getD, hi]⟩⟩
theorem byte_of_wf {z : Int} (h : (Lit.int .u8 z).wf = true) : 0 ≤ z ∧ z < 256 := by
  simp [Lit.wf, IntKind.min, IntKind.max, IntKind.signed, IntKind.bits] at h
  exact ⟨by omega, by omega⟩
theorem Seen.of_ints {w : World} {x : Addr} {n cap : Nat} {zs : List Int} (hn : n ≤ 140737488355328) (hl : n ≤ cap) (hz : zs.length = cap)
    (hcell : ∀ i, i < zs.length → w.cell? (x.add i) = some (.int .u8 (zs.getD i 0))) (hw : ∀ z ∈ zs, (Lit.int .u8 z).wf = true) : Seen w (some x) n (zs.take n) :=
  ⟨by simp; omega, hn, fun z hz => byte_of_wf (hw z (List.mem_of_mem_take hz)), fun h0 => by
    obtain ⟨b, o, rfl, hc⟩ := ints_at hcell (by omega)
    refine ⟨b, o, rfl, ?_, fun i hi => ?_⟩
    · have := hc 0 (by omega)
      exact World.block_lt_of_cell? _ _ this
    · rw [hc i (by omega)]
      simp [List.getD, hi]⟩
theorem Seen.empty (w : World) (ao : Option Addr) : Seen w ao 0 [] := ⟨rfl, by decide, fun z hz => (by cases hz), fun h => (by omega)⟩

set_option maxHeartbeats 1000000 in
theorem rsame_any (ao bo : Option Addr) (n n' c c' : Nat) (xs ys : List Int) (w : World) (hx : Seen w ao n xs) (hy : Seen w bo n' ys) :
    Calls Try.prog 15 #[.slice ao n c, .slice bo n' c'] w fun e w' => e = .returned (.bool (decide (xs = ys))) ∧ ∃ q, w' = w.drewN q := by
  have t1 := hx.top
  have t2 := hy.top
  by_cases hne : n = n'
  · subst hne
    have HL : Hid (xs.length = n ∧ ys.length = n) := ⟨hx.len, hy.len⟩
    go_enter Try.func15, Try.ntmps15
    go_wp2
    go_loopw [5] (fun i wr => ∃ k : Nat, k ≤ n ∧ i = .int .i64 k ∧ xs.take k = ys.take k ∧ ∃ q, wr = w.drewN q) (fun i _ => n - (intOf i).toNat)
    case atStart => exact ⟨0, Nat.zero_le _, rfl, by simp, 0, rfl⟩
    case round =>
      obtain ⟨k, hk, rfl, hs, q, rfl⟩ := hrel
      by_cases hlt : k < n
      · obtain ⟨b, o, rfl, hb, hc⟩ := hx.cells (by omega)
        obtain ⟨b', o', rfl, hb', hc'⟩ := hy.cells (by omega)
        have c1 := hc k hlt
        have c2 := hc' k hlt
        have HT := take_same_succ xs ys k (by have := HL.out.1; omega) (by have := HL.out.2; omega)
        obtain ⟨X, hX⟩ : ∃ X, xs.getD k 0 = X := ⟨_, rfl⟩
        obtain ⟨Y, hY⟩ : ∃ Y, ys.getD k 0 = Y := ⟨_, rfl⟩
        rw [hX] at c1 HT
        rw [hY] at c2 HT
        have HS : Hid (xs.take k = ys.take k) := hs
        have HT' : Hid (xs.take (k + 1) = ys.take (k + 1) ↔ xs.take k = ys.take k ∧ X = Y) := HT
        have i1 : (0 : Int) ≤ (k : Int) := by omega
        have i2 : (k : Int) < (n : Int) := by omega
        clear hX hY hc hc' hx hy hs HT hb hb'
        by_cases e : X = Y
        · have hd : (X != Y) = false := by simp [e]
          have HE : Hid (X = Y) := e
          clear e
          go_wp2
          go_quiet (fail)
          go_wp2
          go_roundw
          case rel => exact ⟨k + 1, by omega, by go_num, HT'.out.2 ⟨HS.out, HE.out⟩, _, rfl⟩
          case measure => simp [intOf]; omega
        · have hd : (X != Y) = true := by simp [e]
          have HE : Hid (¬ X = Y) := e
          clear e
          have HN : Hid (decide (xs = ys) = false) := by
            show _ = _
            apply decide_eq_false
            intro h
            exact HE.out (HT'.out.1 (by rw [h])).2
          go_wp2
          go_quiet (fail)
          go_wp2
          go_ret
          exact ⟨ret_bool HN.out.symm, _, World.drewN_drewN _ _ _⟩
      · have HE : Hid (decide (xs = ys) = true) := by
          show _ = _
          apply decide_eq_true
          have e1 : xs.take k = xs := List.take_of_length_le (by have := HL.out.1; omega)
          have e2 : ys.take k = ys := List.take_of_length_le (by have := HL.out.2; omega)
          rw [← e1, ← e2]; exact hs
        clear hs
        go_wp2
        go_ret
        exact ⟨ret_bool HE.out.symm, _, rfl⟩
  · have h : ((n : Int) != (n' : Int)) = true := by simp; omega
    have HN : Hid (decide (xs = ys) = false) := by
      show _ = _
      apply decide_eq_false
      intro h
      exact hne (by rw [← hx.len, ← hy.len, h])
    go_enter Try.func15, Try.ntmps15
    go_wp2
    go_ret
    exact ⟨ret_bool HN.out.symm, 0, rfl⟩

theorem before_step (xs ys : List Int) (k : Nat) (hx : k < xs.length) (hy : k < ys.length) (bx : Bytes xs) (by' : Bytes ys) :
    pk (mk (xs.getD k 0 == ys.getD k 0)) (mk (bef (xs.drop (k + 1)) (ys.drop (k + 1)))) (mk (decide (xs.getD k 0 < ys.getD k 0))) = mk (bef (xs.drop k) (ys.drop k)) := by
  rw [bef_drop xs ys k hx hy]
  by_cases h : xs.getD k 0 = ys.getD k 0
  · have e : (xs.getD k 0 == ys.getD k 0) = true := by rw [h]; simp
    rw [if_pos h, e, mk_true, pk_ones _ _ (mk_bd _) (mk_bd _)]
  · have e : (xs.getD k 0 == ys.getD k 0) = false := by simpa using h
    rw [if_neg h, e, mk_false, pk_zero _ _ (mk_bd _).1]

set_option maxHeartbeats 1000000 in
theorem before_any (ao bo : Option Addr) (n n' c c' : Nat) (xs ys : List Int) (w : World) (hx : Seen w ao n xs) (hy : Seen w bo n' ys) :
    Calls Try.prog 10 #[.slice ao n c, .slice bo n' c'] w fun e w' => e = .returned (.int .u64 (mk (bef xs ys))) ∧ ∃ q, w' = w.drewN q := by
  have t1 := hx.top
  have t2 := hy.top
  have HL : Hid (xs.length = n ∧ ys.length = n') := ⟨hx.len, hy.len⟩
  go_enter Try.func10, Try.ntmps10
  go_wp2_with (first | (go_at_call 6; refine (less_any _ _ ⟨by omega, by omega⟩ ⟨by omega, by omega⟩ _).mono ?_; rintro e w ⟨rfl, rfl⟩))
  all_goals
    go_loopw [5, 6] (fun b i wr => ∃ k : Nat, k ≤ min n n' ∧ i = .int .i64 ((k : Int) - 1) ∧ b = .int .u64 (mk (bef (xs.drop k) (ys.drop k))) ∧ ∃ q, wr = w.drewN q) (fun _ i _ => (intOf i + 1).toNat)
    case atStart =>
      refine ⟨min n n', Nat.le_refl _, ?_, ?_, 0, rfl⟩
      · congr 1; omega
      · congr 1; rw [bef_end _ _ _ (by rw [HL.out.1, HL.out.2]), HL.out.1, HL.out.2]
    case round =>
      obtain ⟨k, hk, rfl, rfl, q, rfl⟩ := hrel
      cases k with
      | zero =>
        go_wp2
        go_ret
        exact ⟨ret_int (by simp), _, rfl⟩
      | succ j =>
        have ej : (((j + 1 : Nat) : Int) - 1) = (j : Int) := by omega
        rw [ej]
        obtain ⟨b, o, rfl, hb, hc⟩ := hx.cells (by omega)
        obtain ⟨b', o', rfl, hb', hc'⟩ := hy.cells (by omega)
        have c1 := hc j (by omega)
        have c2 := hc' j (by omega)
        have l1 : j < xs.length := by have := HL.out.1; omega
        have l2 : j < ys.length := by have := HL.out.2; omega
        have HT := before_step xs ys j l1 l2 hx.bytes hy.bytes
        have bX := hx.bytes.at j l1
        have bY := hy.bytes.at j l2
        obtain ⟨X, hX⟩ : ∃ X, xs.getD j 0 = X := ⟨_, rfl⟩
        obtain ⟨Y, hY⟩ : ∃ Y, ys.getD j 0 = Y := ⟨_, rfl⟩
        obtain ⟨P, hP⟩ : ∃ P, bef (xs.drop (j + 1)) (ys.drop (j + 1)) = P := ⟨_, rfl⟩
        rw [hX] at c1 bX HT
        rw [hY] at c2 bY HT
        rw [hP] at HT ⊢
        have HH : Hid (pk (mk (X == Y)) (mk P) (mk (decide (X < Y))) = mk (bef (xs.drop j) (ys.drop j))) := HT
        have wX : Word X := ⟨by omega, by omega⟩
        have wY : Word Y := ⟨by omega, by omega⟩
        have i1 : (0 : Int) ≤ (j : Int) := by omega
        have i2 : (j : Int) < (n : Int) := by omega
        have i3 : (j : Int) < (n' : Int) := by omega
        clear hX hY hP hc hc' hx hy HT hb hb' l1 l2 ej
        go_wp2
        go_quiet (fail)
        go_wp2_with (first | (go_at_call 6; refine (less_any _ _ wX wY _).mono ?_; rintro e w ⟨rfl, rfl⟩) | (go_at_call 7; refine (equal_any _ _ wX wY _).mono ?_; rintro e w ⟨rfl, rfl⟩) | (go_at_call 25; refine (pick_any _ _ _ (mk_bd _) (mk_bd _) (mk_bd _) _).mono ?_; rintro e w ⟨rfl, rfl⟩))
        go_roundw
        case rel => exact ⟨j, by omega, rfl, by rw [HH.out], _, rfl⟩
        case measure => simp [intOf]

set_option maxHeartbeats 1000000 in
theorem same_any (ao bo : Option Addr) (n n' c c' : Nat) (xs ys : List Int) (w : World) (hx : Seen w ao n xs) (hy : Seen w bo n' ys) :
    Calls Try.prog 11 #[.slice ao n c, .slice bo n' c'] w fun e w' => e = .returned (.int .u64 (mk (decide (xs = ys)))) ∧ ∃ q, w' = w.drewN q := by
  have t1 := hx.top
  have t2 := hy.top
  by_cases hne : n = n'
  · subst hne
    have HL : Hid (xs.length = n ∧ ys.length = n) := ⟨hx.len, hy.len⟩
    go_enter Try.func11, Try.ntmps11
    go_wp2
    go_loopw [5, 14] (fun u i wr => ∃ (k : Nat) (U : Int), k ≤ n ∧ i = .int .i64 k ∧ u = .int .u8 U ∧ (0 ≤ U ∧ U < 256) ∧ (U = 0 ↔ xs.take k = ys.take k) ∧ ∃ q, wr = w.drewN q) (fun _ i _ => n - (intOf i).toNat)
    case atStart => exact ⟨0, 0, Nat.zero_le _, rfl, rfl, by decide, by simp, 0, rfl⟩
    case round =>
      obtain ⟨k, U, hk, rfl, rfl, bU, hs, q, rfl⟩ := hrel
      by_cases hlt : k < n
      · obtain ⟨b, o, rfl, hb, hc⟩ := hx.cells (by omega)
        obtain ⟨b', o', rfl, hb', hc'⟩ := hy.cells (by omega)
        have c1 := hc k hlt
        have c2 := hc' k hlt
        have l1 : k < xs.length := by have := HL.out.1; omega
        have l2 : k < ys.length := by have := HL.out.2; omega
        have HT := take_same_succ xs ys k l1 l2
        have bX := hx.bytes.at k l1
        have bY := hy.bytes.at k l2
        obtain ⟨X, hX⟩ : ∃ X, xs.getD k 0 = X := ⟨_, rfl⟩
        obtain ⟨Y, hY⟩ : ∃ Y, ys.getD k 0 = Y := ⟨_, rfl⟩
        rw [hX] at c1 HT bX
        rw [hY] at c2 HT bY
        have hO := orxor_bd U X Y bU bX bY
        have HO : Hid _ := hO.1
        have HI : Hid (bits .or .u8 U (bits .xor .u8 X Y) = 0 ↔ xs.take (k + 1) = ys.take (k + 1)) := by
          show _ ↔ _
          rw [hO.2, hs, HT]
        have i1 : (0 : Int) ≤ (k : Int) := by omega
        have i2 : (k : Int) < (n : Int) := by omega
        clear hX hY hc hc' hx hy hs HT hb hb' hO l1 l2
        go_wp2
        go_quiet (fail)
        go_wp2
        go_roundw
        case rel => exact ⟨k + 1, _, by omega, by go_num, rfl, HO.out, HI.out, _, rfl⟩
        case measure => simp [intOf]; omega
      · have HE : Hid ((U == 0) = decide (xs = ys)) := by
          show _ = _
          have e1 : xs.take k = xs := List.take_of_length_le (by have := HL.out.1; omega)
          have e2 : ys.take k = ys := List.take_of_length_le (by have := HL.out.2; omega)
          rw [e1, e2] at hs
          rw [Bool.eq_iff_iff]; simp [hs]
        have wU : Word U := ⟨by omega, by omega⟩
        clear hs
        go_wp2_with (go_at_call 9; refine (zero_any _ wU _).mono ?_; rintro e w2 ⟨rfl, hw2⟩; have hw3 := hw2.symm; subst hw3)
        go_ret
        exact ⟨ret_int (by rw [HE.out]), _, rfl⟩
  · have h : ((n : Int) != (n' : Int)) = true := by simp; omega
    have HN : Hid (decide (xs = ys) = false) := by
      show _ = _
      apply decide_eq_false
      intro h
      exact hne (by rw [← hx.len, ← hy.len, h])
    go_enter Try.func11, Try.ntmps11
    go_wp2
    go_ret
    exact ⟨ret_int (by rw [HN.out, mk_false]), 0, rfl⟩

set_option maxHeartbeats 1000000 in
theorem rbefore_any (ao bo : Option Addr) (n n' c c' : Nat) (xs ys : List Int) (w : World) (hx : Seen w ao n xs) (hy : Seen w bo n' ys) :
    Calls Try.prog 41 #[.slice ao n c, .slice bo n' c'] w fun e w' => e = .returned (.bool (bef xs ys)) ∧ ∃ q, w' = w.drewN q := by
  have t1 := hx.top
  have t2 := hy.top
  have HL : Hid (xs.length = n ∧ ys.length = n') := ⟨hx.len, hy.len⟩
  go_enter Try.func41, Try.ntmps41
  go_wp2
  go_loopw [5] (fun i wr => ∃ k : Nat, k ≤ n ∧ k ≤ n' ∧ i = .int .i64 k ∧ xs.take k = ys.take k ∧ ∃ q, wr = w.drewN q) (fun i _ => n - (intOf i).toNat)
  case atStart => exact ⟨0, Nat.zero_le _, Nat.zero_le _, rfl, by simp, 0, rfl⟩
  case round =>
    obtain ⟨k, hk, hk', rfl, hs, q, rfl⟩ := hrel
    by_cases hlt : k < n
    · by_cases hlt' : k < n'
      · obtain ⟨b, o, rfl, hb, hc⟩ := hx.cells (by omega)
        obtain ⟨b', o', rfl, hb', hc'⟩ := hy.cells (by omega)
        have c1 := hc k hlt
        have c2 := hc' k hlt'
        have l1 : k < xs.length := by have := HL.out.1; omega
        have l2 : k < ys.length := by have := HL.out.2; omega
        have HT := take_same_succ xs ys k l1 l2
        have HB := bef_of_take xs ys k (by omega) (by omega) hs
        rw [bef_drop xs ys k l1 l2] at HB
        obtain ⟨X, hX⟩ : ∃ X, xs.getD k 0 = X := ⟨_, rfl⟩
        obtain ⟨Y, hY⟩ : ∃ Y, ys.getD k 0 = Y := ⟨_, rfl⟩
        rw [hX] at c1 HT HB
        rw [hY] at c2 HT HB
        have i1 : (0 : Int) ≤ (k : Int) := by omega
        have i2 : (k : Int) < (n : Int) := by omega
        have i3 : (k : Int) < (n' : Int) := by omega
        by_cases e : X = Y
        · have hd : (X != Y) = false := by simp [e]
          have HR : Hid (xs.take (k + 1) = ys.take (k + 1)) := HT.2 ⟨hs, e⟩
          clear hX hY hc hc' hx hy hs HT hb hb' HB l1 l2 e
          go_wp2
          go_quiet (fail)
          go_wp2
          go_roundw
          case rel => exact ⟨k + 1, by omega, by omega, by go_num, HR.out, _, rfl⟩
          case measure => simp [intOf]; omega
        · have hd : (X != Y) = true := by simp [e]
          rw [if_neg e] at HB
          have HR : Hid (bef xs ys = decide (X < Y)) := HB
          clear hX hY hc hc' hx hy hs HT hb hb' HB l1 l2 e
          go_wp2
          go_quiet (fail)
          go_wp2
          go_quiet (fail)
          go_wp2
          go_ret
          exact ⟨ret_bool HR.out.symm, _, by rw [World.drewN_drewN, World.drewN_drewN]⟩
      · have HB := bef_of_take xs ys k (by have := HL.out.1; omega) (by have := HL.out.2; omega) hs
        rw [bef_end xs ys k (by rw [HL.out.1, HL.out.2]; omega), HL.out.1, HL.out.2] at HB
        have HR : Hid (bef xs ys = decide (n < n')) := HB
        have i2 : (k : Int) < (n : Int) := by omega
        clear HB hs
        go_wp2
        go_ret
        exact ⟨ret_bool HR.out.symm, _, rfl⟩
    · have HB := bef_of_take xs ys k (by have := HL.out.1; omega) (by have := HL.out.2; omega) hs
      rw [bef_end xs ys k (by rw [HL.out.1, HL.out.2]; omega), HL.out.1, HL.out.2] at HB
      have HR : Hid (bef xs ys = decide (n < n')) := HB
      clear HB hs
      go_wp2
      go_ret
      exact ⟨ret_bool HR.out.symm, _, rfl⟩
end Go.Proofs.Ytldfbbgboelngab
