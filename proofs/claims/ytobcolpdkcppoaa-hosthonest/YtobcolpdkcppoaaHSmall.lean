/- Layer host: the small asks; which faults are known; what the power does. -/
import Derived.Test.YtobcolpdkcppoaaHBase
namespace Go.Proofs.Ytobcolpdkcppoaa
open Go.RowKit
set_option linter.unusedVariables false
set_option linter.unusedSimpArgs false

theorem hc {w : World} {h : Nat} {s : HSt} {gl gm : Nat} {lg : Value} (b : Blk w h 91 (hostC s gl gm lg)) (j : Nat) : w.cell? ⟨h, j, none⟩ = (hostC s gl gm lg)[j]? := b.cell j
theorem down_any (h : Nat) (s : HSt) (M : Nat → Prop) (w : World) (x : HostAt w M h s) : Calls Try.prog 19 #[.pointer (some ⟨h, 0, none⟩)] w fun e w' => e = .returned (.bool s.down) ∧ w = w' := by
  obtain ⟨gl, gm, lg, rws, n, D, x⟩ := x
  have c7 : w.cell? ⟨h, 7, none⟩ = some (.bool s.down) := x.blk.cell 7
  clear x
  go_enter Try.func19, Try.ntmps19
  go_wp2
  go_ret
  exact ⟨rfl, rfl⟩
theorem pages_any (h : Nat) (s : HSt) (M : Nat → Prop) (w : World) (x : HostAt w M h s) : Calls Try.prog 20 #[.pointer (some ⟨h, 0, none⟩)] w fun e w' => e = .returned (.int .i64 s.pages) ∧ w = w' := by
  obtain ⟨gl, gm, lg, rws, n, D, x⟩ := x
  have c1 : w.cell? ⟨h, 1, none⟩ = some (.slice (some ⟨gl, 0, none⟩) s.pages s.pages) := x.blk.cell 1
  clear x
  go_enter Try.func20, Try.ntmps20
  go_wp2
  go_ret
  exact ⟨rfl, rfl⟩
theorem size_any (h : Nat) (s : HSt) (M : Nat → Prop) (w : World) (x : HostAt w M h s) : Calls Try.prog 21 #[.pointer (some ⟨h, 0, none⟩)] w fun e w' => e = .returned (.int .i64 s.size) ∧ w = w' := by
  obtain ⟨gl, gm, lg, rws, n, D, x⟩ := x
  have c0 : w.cell? ⟨h, 0, none⟩ = some (.int .i64 s.size) := x.blk.cell 0
  clear x
  go_enter Try.func21, Try.ntmps21
  go_wp2
  go_ret
  exact ⟨rfl, rfl⟩
theorem ops_any (h : Nat) (s : HSt) (M : Nat → Prop) (w : World) (x : HostAt w M h s) : Calls Try.prog 18 #[.pointer (some ⟨h, 0, none⟩)] w fun e w' => e = .returned (.int .i64 s.ops) ∧ w = w' := by
  obtain ⟨gl, gm, lg, rws, n, D, x⟩ := x
  have c5 : w.cell? ⟨h, 5, none⟩ = some (.int .i64 s.ops) := x.blk.cell 5
  clear x
  go_enter Try.func18, Try.ntmps18
  go_wp2
  go_ret
  exact ⟨rfl, rfl⟩
def hasP (s : HSt) (p : Int) : Bool := decide (0 ≤ p ∧ p < s.pages)
theorem has_any (h : Nat) (s : HSt) (p : Int) (M : Nat → Prop) (w : World) (x : HostAt w M h s) : Calls Try.prog 64 #[.pointer (some ⟨h, 0, none⟩), .int .i64 p] w fun e w' => e = .returned (.bool (hasP s p)) ∧ w = w' := by
  obtain ⟨gl, gm, lg, rws, n, D, x⟩ := x
  have c1 : w.cell? ⟨h, 1, none⟩ = some (.slice (some ⟨gl, 0, none⟩) s.pages s.pages) := x.blk.cell 1
  clear x
  by_cases h0 : 0 ≤ p
  · by_cases h1 : p < s.pages
    · go_enter Try.func64, Try.ntmps64
      go_wp2
      go_ret
      exact ⟨ret_bool (by simp [hasP, h0, h1]), rfl⟩
    · go_enter Try.func64, Try.ntmps64
      go_wp2
      go_ret
      exact ⟨ret_bool (by simp [hasP, h0, h1]), rfl⟩
  · go_enter Try.func64, Try.ntmps64
    go_wp2
    go_ret
    exact ⟨ret_bool (by simp [hasP]; omega), rfl⟩
theorem checkH_any (h : Nat) (s : HSt) (p : Int) (M : Nat → Prop) (w : World) (x : HostAt w M h s) : Calls Try.prog 47 #[.pointer (some ⟨h, 0, none⟩), .int .i64 p] w fun e w' => e = .returned (.int .i64 (if hasP s p then 0 else 2)) ∧ w = w' := by
  have C := has_any h s p M w x
  cases hp : hasP s p
  · rw [hp] at C
    clear x hp
    go_enter Try.func47, Try.ntmps47
    go_wp2_with (go_at_call 64; refine C.mono ?_; rintro e _ ⟨rfl, rfl⟩)
    go_ret
    exact ⟨rfl, rfl⟩
  · rw [hp] at C
    clear x hp
    go_enter Try.func47, Try.ntmps47
    go_wp2_with (go_at_call 64; refine C.mono ?_; rintro e _ ⟨rfl, rfl⟩)
    go_ret
    exact ⟨rfl, rfl⟩
theorem checkH_nil (p : Int) (w : World) : Calls Try.prog 47 #[.pointer none, .int .i64 p] w fun e w' => e = .returned (.int .i64 1) ∧ w = w' := by
  go_enter Try.func47, Try.ntmps47
  go_wp2_with fail
  go_ret
  exact ⟨rfl, rfl⟩
/-- The faults are of known kinds. -/
def known (fs : List Fl) : Bool := fs.all fun f => decide (0 ≤ f.k ∧ f.k ≤ 4)
theorem known_cut {fs : List Fl} {i : Nat} (hi : i < fs.length) (h : ¬ (0 ≤ (fs.getD i default).k ∧ (fs.getD i default).k ≤ 4)) : known fs = false := by
  have e : fs.getD i default = fs[i] := by simp [List.getD, hi]
  rw [e] at h
  cases hk : known fs with
  | false => rfl
  | true =>
    simp only [known, List.all_eq_true] at hk
    have := hk _ (List.getElem_mem hi)
    simp only [decide_eq_true_eq] at this
    exact absurd this h
set_option maxRecDepth 20000 in
set_option maxHeartbeats 1000000 in
theorem allKnown_any (v : Value) (fs : List Fl) (M : Nat → Prop) (w : World) (x : FlS w M v fs) : Calls Try.prog 44 #[v] w fun e w' => e = .returned (.bool (known fs)) ∧ Below w.heap.size w w' := by
  obtain ⟨ao, c, rfl, hx⟩ := x.ex
  have X : Hid (FlS w M (.slice ao fs.length c) fs) := x
  have HX : Hid (∀ i, i < fs.length → ∃ b o, ao = some ⟨b, o, none⟩ ∧ b < w.heap.size ∧ M b ∧ w.rangeAt b (o + i * 6) (flC (fs.getD i default))) := hx
  have ht := x.top
  clear x hx
  obtain ⟨n, hn⟩ : ∃ n, fs.length = n := ⟨_, rfl⟩
  rw [hn] at ht ⊢
  have HN : Hid (fs.length = n) := hn
  clear hn
  go_enter Try.func44, Try.ntmps44
  go_wp2
  go_loopw [7] (fun i wr => ∃ k : Nat, k ≤ n ∧ i = .int .i64 k ∧ Below w.heap.size w wr ∧ ∀ j, j < k → 0 ≤ (fs.getD j default).k ∧ (fs.getD j default).k ≤ 4) (fun i _ => n - (intOf i).toNat)
  case atStart => exact ⟨0, Nat.zero_le _, rfl, Below.refl _ _, fun j hj => by omega⟩
  case round =>
    obtain ⟨k, hk, rfl, hbel, hall⟩ := hrel
    by_cases hlt : k < n
    · obtain ⟨b, o, rfl, hbl, _, hrg⟩ := HX.out k (by rw [HN.out]; exact hlt)
      obtain ⟨f, hf⟩ : ∃ f, fs.getD k default = f := ⟨_, rfl⟩
      rw [hf] at hrg
      have hg : f.Good := by rw [← hf]; exact Fl.good_at X.out.good k (by rw [HN.out]; exact hlt)
      have HB : Hid (Below w.heap.size w wr ∧ wr.rangeAt b (o + k * 6) (flC f) ∧ (∀ j, j < k → 0 ≤ (fs.getD j default).k ∧ (fs.getD j default).k ≤ 4) ∧ fs.getD k default = f) := ⟨hbel, rangeAt_same hrg (hbel.block b hbl), hall, hf⟩
      have hk1 := hg.2.1
      have i1 : (0 : Int) ≤ (k : Int) := by omega
      have i2 : (k : Int) < (n : Int) := by omega
      clear hbl hrg hf hg hbel hall
      by_cases h0 : 0 ≤ f.k ∧ f.k ≤ 4
      · have h01 := h0.1
        have h02 := h0.2
        have HK : Hid (0 ≤ f.k ∧ f.k ≤ 4) := h0
        clear h0
        go_wp2_with (first | (refine wpList_load_mid rfl 55 (.tmp 9) rfl b (o + k * 6) rfl (flC f) _ HB.out.2.1 Try.underlying55 rfl (sizeFl f) ?_) | (refine wpList_alloc_new rfl 55 rfl 6 _ zeroFl ?_; intro w4 b4 s4 l4) | (refine wpList_store_blk rfl 55 55 (.tmp 4) _ rfl _ rfl _ (flC f) rfl b4 rfl (sizeFl f) (flC_one f) ?_; intro w5 b5 s5 k5; have c1 : w5.cell? ⟨wr.heap.size, 1, none⟩ = some (.int .i64 f.k) := b5.cell 1))
        have R : Hid (Below w.heap.size w w5) := below_chain HB.out.1 (below_kept l4 k5 (by omega) (fun j hj => by omega)) HB.out.1.size
        clear b4 s4 l4 b5 s5 k5 c1
        go_roundw
        case rel => exact ⟨k + 1, by omega, by go_num, R.out, fun j hj => by
          rcases Nat.lt_or_ge j k with h1 | h1
          · exact HB.out.2.2.1 j h1
          · obtain rfl : j = k := by omega
            rw [HB.out.2.2.2]; exact HK.out⟩
        case measure => simp [intOf] <;> omega
      · have HF : Hid (known fs = false) := known_cut (i := k) (by rw [HN.out]; exact hlt) (by rw [HB.out.2.2.2]; exact h0)
        rcases (show f.k < 0 ∨ (0 ≤ f.k ∧ 4 < f.k) by omega) with h1 | ⟨h1, h2⟩
        all_goals
          clear h0
          go_wp2_with (first | (refine wpList_load_mid rfl 55 (.tmp 9) rfl b (o + k * 6) rfl (flC f) _ HB.out.2.1 Try.underlying55 rfl (sizeFl f) ?_) | (refine wpList_alloc_new rfl 55 rfl 6 _ zeroFl ?_; intro w4 b4 s4 l4) | (refine wpList_store_blk rfl 55 55 (.tmp 4) _ rfl _ rfl _ (flC f) rfl b4 rfl (sizeFl f) (flC_one f) ?_; intro w5 b5 s5 k5; have c1 : w5.cell? ⟨wr.heap.size, 1, none⟩ = some (.int .i64 f.k) := b5.cell 1))
          have R : Hid (Below w.heap.size w w5) := below_chain HB.out.1 (below_kept l4 k5 (by omega) (fun j hj => by omega)) HB.out.1.size
          clear b4 s4 l4 b5 s5 k5 c1
          go_ret
          exact ⟨ret_bool HF.out.symm, R.out⟩
    · obtain rfl : k = n := by omega
      have HF : Hid (known fs = true ∧ Below w.heap.size w wr) := ⟨by
        simp only [known, List.all_eq_true, decide_eq_true_eq]
        intro f hf
        obtain ⟨j, hj, rfl⟩ := List.getElem_of_mem hf
        have := hall j (by have := HN.out; omega)
        simpa [List.getD, hj] using this, hbel⟩
      clear hbel hall hk
      go_wp2
      go_ret
      exact ⟨ret_bool HF.out.1.symm, HF.out.2⟩
/-- What the power does under these faults: 0 it stays, 1 it goes ahead, 2 behind. -/
def powL (fs : List Fl) : Int := if fs.any (fun f => f.k == 3) then 1 else if fs.any (fun f => f.k == 4) then 2 else 0
theorem powL_ahead {fs : List Fl} {i : Nat} (hi : i < fs.length) (h : (fs.getD i default).k = 3) : powL fs = 1 := by
  have e : fs.getD i default = fs[i] := by simp [List.getD, hi]
  rw [e] at h
  unfold powL
  rw [if_pos]
  exact List.any_eq_true.2 ⟨_, List.getElem_mem hi, by simp [h]⟩
theorem take_any_succ {fs : List Fl} {k : Nat} (hk : k < fs.length) (q : Fl → Bool) : (fs.take (k + 1)).any q = ((fs.take k).any q || q (fs.getD k default)) := by
  rw [List.take_succ_eq_append_getElem hk, List.any_append]
  simp [List.getD, hk]
set_option maxRecDepth 20000 in
set_option maxHeartbeats 1000000 in
theorem power_any (v : Value) (fs : List Fl) (M : Nat → Prop) (w : World) (x : FlS w M v fs) : Calls Try.prog 66 #[v] w fun e w' => e = .returned (.int .i64 (powL fs)) ∧ Below w.heap.size w w' := by
  obtain ⟨ao, c, rfl, hx⟩ := x.ex
  have X : Hid (FlS w M (.slice ao fs.length c) fs) := x
  have HX : Hid (∀ i, i < fs.length → ∃ b o, ao = some ⟨b, o, none⟩ ∧ b < w.heap.size ∧ M b ∧ w.rangeAt b (o + i * 6) (flC (fs.getD i default))) := hx
  have ht := x.top
  clear x hx
  obtain ⟨n, hn⟩ : ∃ n, fs.length = n := ⟨_, rfl⟩
  rw [hn] at ht ⊢
  have HN : Hid (fs.length = n) := hn
  clear hn
  go_enter Try.func66, Try.ntmps66
  go_wp2
  go_loopw [3, 8] (fun pw i wr => ∃ k : Nat, k ≤ n ∧ i = .int .i64 k ∧ Below w.heap.size w wr ∧ (fs.take k).any (fun f => f.k == 3) = false ∧ pw = .int .i64 (if (fs.take k).any (fun f => f.k == 4) then 2 else 0)) (fun _ i _ => n - (intOf i).toNat)
  case atStart => exact ⟨0, Nat.zero_le _, rfl, Below.refl _ _, by simp, by simp⟩
  case round =>
    obtain ⟨k, hk, rfl, hbel, hall, rfl⟩ := hrel
    obtain ⟨pw, hpw⟩ : ∃ q, (if (fs.take k).any (fun f => f.k == 4) then (2 : Int) else 0) = q := ⟨_, rfl⟩
    rw [hpw]
    have HP : Hid ((if (fs.take k).any (fun f => f.k == 4) then (2 : Int) else 0) = pw) := hpw
    clear hpw
    by_cases hlt : k < n
    · obtain ⟨b, o, rfl, hbl, _, hrg⟩ := HX.out k (by rw [HN.out]; exact hlt)
      have hlt' : k < fs.length := by rw [HN.out]; exact hlt
      obtain ⟨f, hf⟩ : ∃ f, fs.getD k default = f := ⟨_, rfl⟩
      rw [hf] at hrg
      have HB : Hid (Below w.heap.size w wr ∧ wr.rangeAt b (o + k * 6) (flC f) ∧ (fs.take k).any (fun f => f.k == 3) = false ∧ fs.getD k default = f ∧ k < fs.length) := ⟨hbel, rangeAt_same hrg (hbel.block b hbl), hall, hf, hlt'⟩
      have i1 : (0 : Int) ≤ (k : Int) := by omega
      have i2 : (k : Int) < (n : Int) := by omega
      clear hbl hrg hf hbel hall hlt'
      by_cases h3 : f.k = 3
      · have h3' : (f.k == 3) = true := by simp [h3]
        have HF : Hid (powL fs = 1) := powL_ahead (i := k) HB.out.2.2.2.2 (by rw [HB.out.2.2.2.1]; exact h3)
        clear h3
        go_wp2_with (first | (refine wpList_load_mid rfl 55 (.tmp 10) rfl b (o + k * 6) rfl (flC f) _ HB.out.2.1 Try.underlying55 rfl (sizeFl f) ?_) | (refine wpList_alloc_new rfl 55 rfl 6 _ zeroFl ?_; intro w4 b4 s4 l4) | (refine wpList_store_blk rfl 55 55 (.tmp 5) _ rfl _ rfl _ (flC f) rfl b4 rfl (sizeFl f) (flC_one f) ?_; intro w5 b5 s5 k5; have c1 : w5.cell? ⟨wr.heap.size, 1, none⟩ = some (.int .i64 f.k) := b5.cell 1))
        have R : Hid (Below w.heap.size w w5) := below_chain HB.out.1 (below_kept l4 k5 (by omega) (fun j hj => by omega)) HB.out.1.size
        clear b4 s4 l4 b5 s5 k5 c1
        go_ret
        exact ⟨ret_int HF.out.symm, R.out⟩
      · have h3' : (f.k == 3) = false := by simp [h3]
        rcases (show f.k = 4 ∨ f.k ≠ 4 by omega) with h4 | h4
        · have h4' : (f.k == 4) = true := by simp [h4]
          have HF : Hid ((fs.take (k + 1)).any (fun f => f.k == 3) = false ∧ (if (fs.take (k + 1)).any (fun f => f.k == 4) then (2 : Int) else 0) = 2) := ⟨by rw [take_any_succ HB.out.2.2.2.2, HB.out.2.2.1, HB.out.2.2.2.1, h3']; rfl, by rw [take_any_succ HB.out.2.2.2.2, HB.out.2.2.2.1, h4', Bool.or_true]; rfl⟩
          clear h3 h4
          go_wp2_with (first | (refine wpList_load_mid rfl 55 (.tmp 10) rfl b (o + k * 6) rfl (flC f) _ HB.out.2.1 Try.underlying55 rfl (sizeFl f) ?_) | (refine wpList_alloc_new rfl 55 rfl 6 _ zeroFl ?_; intro w4 b4 s4 l4) | (refine wpList_store_blk rfl 55 55 (.tmp 5) _ rfl _ rfl _ (flC f) rfl b4 rfl (sizeFl f) (flC_one f) ?_; intro w5 b5 s5 k5; have c1 : w5.cell? ⟨wr.heap.size, 1, none⟩ = some (.int .i64 f.k) := b5.cell 1))
          have R : Hid (Below w.heap.size w w5) := below_chain HB.out.1 (below_kept l4 k5 (by omega) (fun j hj => by omega)) HB.out.1.size
          clear b4 s4 l4 b5 s5 k5 c1
          go_roundw
          case rel => exact ⟨k + 1, by omega, by go_num, R.out, HF.out.1, by rw [HF.out.2]⟩
          case measure => simp [intOf] <;> omega
        · have h4' : (f.k == 4) = false := by simp [h4]
          have HF : Hid ((fs.take (k + 1)).any (fun f => f.k == 3) = false ∧ (if (fs.take (k + 1)).any (fun f => f.k == 4) then (2 : Int) else 0) = pw) := ⟨by rw [take_any_succ HB.out.2.2.2.2, HB.out.2.2.1, HB.out.2.2.2.1, h3']; rfl, by rw [take_any_succ HB.out.2.2.2.2, HB.out.2.2.2.1, h4', Bool.or_false]; exact HP.out⟩
          clear h3 h4
          go_wp2_with (first | (refine wpList_load_mid rfl 55 (.tmp 10) rfl b (o + k * 6) rfl (flC f) _ HB.out.2.1 Try.underlying55 rfl (sizeFl f) ?_) | (refine wpList_alloc_new rfl 55 rfl 6 _ zeroFl ?_; intro w4 b4 s4 l4) | (refine wpList_store_blk rfl 55 55 (.tmp 5) _ rfl _ rfl _ (flC f) rfl b4 rfl (sizeFl f) (flC_one f) ?_; intro w5 b5 s5 k5; have c1 : w5.cell? ⟨wr.heap.size, 1, none⟩ = some (.int .i64 f.k) := b5.cell 1))
          have R : Hid (Below w.heap.size w w5) := below_chain HB.out.1 (below_kept l4 k5 (by omega) (fun j hj => by omega)) HB.out.1.size
          clear b4 s4 l4 b5 s5 k5 c1
          go_roundw
          case rel => exact ⟨k + 1, by omega, by go_num, R.out, HF.out.1, by rw [HF.out.2]⟩
          case measure => simp [intOf] <;> omega
    · obtain rfl : k = n := by omega
      have HF : Hid (powL fs = pw ∧ Below w.heap.size w wr) := ⟨by
        have e := HN.out
        rw [List.take_of_length_le (by omega)] at hall
        have p := HP.out
        rw [List.take_of_length_le (by omega)] at p
        unfold powL
        rw [hall, p]; rfl, hbel⟩
      clear hbel hall hk
      go_wp2
      go_ret
      exact ⟨ret_int HF.out.1.symm, HF.out.2⟩
end Go.Proofs.Ytobcolpdkcppoaa
