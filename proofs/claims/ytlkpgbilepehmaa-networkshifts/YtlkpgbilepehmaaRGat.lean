/- Layer network: the document's Layers of what is no size; its Gates; how many they are. -/
import Derived.Test.YtlkpgbilepehmaaRLay
namespace Go.Proofs.Ytlkpgbilepehmaa
open Go.RowKit
set_option linter.unusedVariables false
set_option linter.unusedSimpArgs false
set_option maxHeartbeats 1000000 in
theorem rlayers_no (n : Int) (hn : ¬ IsSz n) (w : World) : Calls Try.prog 16 #[.int .i64 n] w fun e w' => e = .returned (.slice none 0 0) ∧ w = w' := by
  go_enter Try.func16, Try.ntmps16
  go_wp2_with (go_at_call 39; refine (rsize_no n hn _).mono ?_; rintro e w1 ⟨rfl, rfl⟩)
  go_ret
  exact ⟨rfl, rfl⟩
theorem gates_len (L : Nat) (hL : L ≤ 16) : ((gatesL L).length : Int) = gatesI L := by
  rw [gatesL_length L hL]
  unfold gatesI
  rcases Nat.eq_zero_or_pos L with h | h
  · subst h; rfl
  · have h1 := stepsK_count L
    have h2 : 2 ^ L = 2 * 2 ^ (L - 1) := by rw [← Nat.pow_succ']; congr 1; omega
    have h3 : ((2 ^ L : Nat) : Int) * (L : Int) * ((L : Int) + 1) = ((2 ^ L * (L * (L + 1)) : Nat) : Int) := by
      rw [Int.mul_assoc, Int.natCast_mul (2 ^ L), Int.natCast_mul L]; simp
    rw [h3, h2, ← h1]
    have h4 : 2 * 2 ^ (L - 1) * (2 * (stepsK L).length) = 4 * ((stepsK L).length * 2 ^ (L - 1)) := by
      rw [Nat.mul_assoc, Nat.mul_left_comm (2 ^ (L - 1)), ← Nat.mul_assoc, Nat.mul_comm (2 ^ (L - 1))]
    rw [h4]
    omega
theorem hopC_append (a b : List (Int × Int)) : hopC (a ++ b) = hopC a ++ hopC b := by simp [hopC]
theorem hopC_len (a : List (Int × Int)) : (hopC a).length = a.length * 2 := by
  induction a with
  | nil => rfl
  | cons x r ih => simp only [hopC, List.flatMap_cons, List.length_append] at ih ⊢; rw [ih]; simp; omega
theorem laysL_flat (N : Nat) (l : List Stp) : (laysL N l).flatten = gts N l := by
  unfold laysL gts
  rw [List.flatMap_def]
theorem flat_take (R : List (List (Int × Int))) (k : Nat) (r : List (Int × Int)) (h : R[k]? = some r) : (R.take (k + 1)).flatten = (R.take k).flatten ++ r := by
  rw [List.take_add_one, h]; simp
theorem flat_le (R : List (List (Int × Int))) (k : Nat) : (R.take k).flatten.length ≤ R.flatten.length := by
  have : R.flatten = (R.take k).flatten ++ (R.drop k).flatten := by rw [← List.flatten_append, List.take_append_drop]
  rw [this, List.length_append]; omega
set_option maxRecDepth 20000 in
set_option maxHeartbeats 2000000 in
theorem rgates_of (n : Int) (R : List (List (Int × Int))) (hR : R.flatten.length ≤ 4456448 ∧ R.length ≤ 1024) (w : World)
    (hRL : Calls Try.prog 16 #[.int .i64 n] w fun e w' => ∃ v, e = .returned v ∧ GRows w' w.heap.size v R ∧ Below w.heap.size w w') :
    Calls Try.prog 9 #[.int .i64 n] w fun e w' => ∃ v, e = .returned v ∧ w'.ownsRow w.heap.size 29 2 v R.flatten.length (hopC R.flatten) ∧ Below w.heap.size w w' := by
  obtain ⟨i0, hi, hz0, hz1, hz2⟩ := info_parts infoGate
  have HRL : Hid (Calls Try.prog 16 #[.int .i64 n] w fun e w' => ∃ v, e = .returned v ∧ GRows w' w.heap.size v R ∧ Below w.heap.size w w') := hRL
  have HB : Hid (R.flatten.length ≤ 4456448) := hR.1
  have hRl := hR.2
  clear hRL hR
  go_enter Try.func9, Try.ntmps9
  go_wp2_with (go_at_call 16; refine HRL.out.mono ?_; rintro e w1 ⟨v, rfl, hG, hB1⟩)
  obtain ⟨hs, h1, h2⟩ := hG
  obtain ⟨av, cv, rfl⟩ : ∃ av cv, v = .slice av R.length cv := by
    rcases h1.2 with ⟨rfl, h0⟩ | ⟨g, cap, cur, rfl, _⟩
    · exact ⟨_, _, by rw [h0]⟩
    · exact ⟨_, _, rfl⟩
  have HG : Hid (w1.ownsRow w.heap.size 22 1 (.slice av R.length cv) R.length hs ∧ (∀ (i : Nat) r, R[i]? = some r → ∃ h, hs[i]? = some h ∧ GRow w1 w.heap.size h r) ∧ Below w.heap.size w w1) := ⟨h1, h2, hB1⟩
  clear h1 h2 HRL
  go_loopw [3, 5] (fun o v wr => ∃ k : Nat, v = .int .i64 (k : Int) ∧ k ≤ R.length ∧ wr.ownsRow w1.heap.size 29 2 o (R.take k).flatten.length (hopC (R.take k).flatten) ∧ Below w1.heap.size w1 wr) (fun _ v _ => R.length - (intOf v).toNat)
  case atStart => exact ⟨0, rfl, by omega, World.ownsRow_nil _ _ _ _, Below.refl _ _⟩
  case round =>
    obtain ⟨k, rfl, hk, hO, hB2⟩ := hrel
    by_cases hlt : k < R.length
    · obtain ⟨r, hr⟩ : ∃ r, R[k]? = some r := ⟨_, List.getElem?_eq_getElem hlt⟩
      obtain ⟨h, hh1, hh2⟩ := HG.out.2.1 k r hr
      obtain ⟨g, cp, cur, rfl, hg, hcur⟩ : ∃ g cp cur, h = .slice (some ⟨g, 0, none⟩) r.length cp ∧ w1.heap[g]? = some (.cells cur 29 (0, 0)) ∧ (r.length ≤ cp ∧ cp ≤ maxLen ∧ cur.size = cp * 2 ∧ cur.toList.take (r.length * 2) = hopC r) := by
        rcases hh2.1.2 with ⟨_, h0⟩ | ⟨g, cap, cur, e, _, hh, hrest⟩
        · exact absurd (List.eq_nil_of_length_eq_zero h0) hh2.2
        · exact ⟨g, cap, cur, e, hh, hrest⟩
      obtain ⟨gv, rfl, hgv, hcell⟩ : ∃ gv, av = some ⟨gv, 0, none⟩ ∧ gv < w1.heap.size ∧ w1.cell? ⟨gv, k, none⟩ = some (.slice (some ⟨g, 0, none⟩) r.length cp) := by
        rcases HG.out.1.2 with ⟨_, h0⟩ | ⟨gv, cap, curv, e, _, hh, hrest⟩
        · omega
        · simp only [Value.slice.injEq] at e
          refine ⟨gv, e.1, (Array.getElem?_eq_some_iff.1 hh).1, ?_⟩
          rw [cell_of_row w1 gv k _ 22 (0, 0) hh]
          have h5 := hrest.2.2.2
          rw [Nat.mul_one] at h5
          have h6 : (curv.toList.take R.length)[k]? = hs[k]? := by rw [h5]
          rw [List.getElem?_take_of_lt hlt, hh1] at h6
          simpa using h6
      have c1 : wr.cell? ⟨gv, k, none⟩ = some (.slice (some ⟨g, 0, none⟩) r.length cp) := (hB2.cell (p := ⟨gv, k, none⟩) hgv).trans hcell
      have hglt := (Array.getElem?_eq_some_iff.1 hg).1
      have HS : Hid (∀ j u, (hopC r)[j]? = some u → wr.cell? ((⟨g, 0, none⟩ : Addr).add j) = some u) := fun j u hj => by
        have e : (⟨g, 0, none⟩ : Addr).add j = ⟨g, j, none⟩ := by unfold Addr.add; split <;> simp_all
        rw [e, hB2.cell (p := ⟨g, j, none⟩) hglt, cell_of_row w1 g j _ 29 (0, 0) hg]
        have hjl := (List.getElem?_eq_some_iff.1 hj).1
        rw [hopC_len] at hjl
        have h5 := hcur.2.2.2
        have h6 : (cur.toList.take (r.length * 2))[j]? = (hopC r)[j]? := by rw [h5]
        rw [List.getElem?_take_of_lt hjl, hj] at h6
        simpa using h6
      have HF : Hid ((R.take (k + 1)).flatten = (R.take k).flatten ++ r ∧ (R.take k).flatten.length + r.length ≤ 4456448) := ⟨flat_take R k r hr, by have h7 := flat_le R (k + 1); rw [flat_take R k r hr, List.length_append] at h7; have := HB.out; omega⟩
      have HO : Hid (wr.ownsRow w1.heap.size 29 2 u3 (R.take k).flatten.length (hopC (R.take k).flatten)) := hO
      have i1 : (0 : Int) ≤ (k : Int) := by omega
      have i2 : (k : Int) < (R.length : Int) := by omega
      clear hO hr hh1 hh2 hcur hcell hgv hg hglt
      go_wp2_with (at_builtin; refine wpList_append_own _ rfl _ _ 22 rfl w1.heap.size 29 i0 _ 2 16 Try.underlying22 hi hz0 hz1 hz2 rfl (by decide) _ _ _ rfl HO.out ⟨g, 0, none⟩ r.length cp (hopC r) rfl (hopC_len r) HS.out (by intro u hu; obtain ⟨z, _, hz⟩ := List.mem_flatMap.1 hu; simp only [List.mem_cons, List.not_mem_nil, or_false] at hz; rcases hz with rfl | rfl <;> rfl) (by have := HF.out.2; simp only [maxLen]; omega) (by have := HF.out.2; omega) (by have := hB2.size; omega) ?_; intro v1 w2 hO3 hg1 _)
      go_roundw
      case rel =>
        refine ⟨k + 1, by go_num, by omega, ?_, ?_⟩
        · rw [HF.out.1, hopC_append, List.length_append]; exact hO3
        · exact hB2.trans (below_own HO.out hg1 hO3 hB2.size)
      case measure => simp [intOf]; omega
    · have hkR : (R.take k).flatten = R.flatten := by rw [List.take_of_length_le (by omega)]
      rw [hkR] at hO
      have hO2 : wr.ownsRow w.heap.size 29 2 u3 R.flatten.length (hopC R.flatten) := by
        refine ⟨hO.1, ?_⟩
        rcases hO.2 with h0 | ⟨g, cap, cur, e, hb, rest⟩
        · exact .inl h0
        · exact .inr ⟨g, cap, cur, e, by have := HG.out.2.2.size; omega, rest⟩
      have HO : Hid (wr.ownsRow w.heap.size 29 2 u3 R.flatten.length (hopC R.flatten)) := hO2
      clear hO hkR hO2
      go_wp2_with (fail)
      go_ret
      exact ⟨_, rfl, HO.out, HG.out.2.2.trans ⟨hB2.os, hB2.tape, hB2.output, hB2.size, fun j hj => hB2.block j (by have := HG.out.2.2.size; omega)⟩⟩
theorem rgates_yes (L : Nat) (hL : L ≤ 16) (w : World) : Calls Try.prog 9 #[.int .i64 ((2 ^ L : Nat) : Int)] w fun e w' => ∃ v, e = .returned v ∧ w'.ownsRow w.heap.size 29 2 v (gatesL L).length (hopC (gatesL L)) ∧ Below w.heap.size w w' := by
  have h := rgates_of ((2 ^ L : Nat) : Int) (laysL (2 ^ L) (stepsK L)) ⟨?_, ?_⟩ w (rlayers_yes L hL (2 ^ L) rfl w)
  · rw [laysL_flat] at h
    exact h
  · rw [laysL_flat]
    show (gatesL L).length ≤ _
    have h1 := gatesL_length L hL
    have h2 := stepsK_count L
    have h3 : 2 ^ (L - 1) ≤ 2 ^ 15 := Nat.pow_le_pow_right (by decide) (by omega)
    have h4 : L * (L + 1) ≤ 16 * 17 := Nat.mul_le_mul hL (by omega)
    have h5 : (stepsK L).length * 2 ^ (L - 1) ≤ 136 * 2 ^ 15 := Nat.mul_le_mul (by omega) h3
    omega
  · have := stepsK_len L hL
    simp only [laysL, List.length_map]; omega
theorem rgates_no (n : Int) (hn : ¬ IsSz n) (w : World) : Calls Try.prog 9 #[.int .i64 n] w fun e w' => ∃ v, e = .returned v ∧ w'.ownsRow w.heap.size 29 2 v 0 (hopC []) ∧ Below w.heap.size w w' := by
  refine rgates_of n [] ⟨by simp, by simp⟩ w ((rlayers_no n hn w).mono ?_)
  rintro e w' ⟨rfl, rfl⟩
  exact ⟨_, rfl, GRows.nil _ _, Below.refl _ _⟩
end Go.Proofs.Ytlkpgbilepehmaa
