/- Layer host: the statements' sameTold, sameLog, fits, last. -/
import Derived.Test.YtobcolpdkcppoaaHToldA
import Derived.Test.YtobcolpdkcppoaaDHeld
import Derived.Test.YtobcolpdkcppoaaHEqT
namespace Go.Proofs.Ytobcolpdkcppoaa
open Go.RowKit
set_option linter.unusedVariables false
set_option linter.unusedSimpArgs false

set_option maxRecDepth 20000 in
set_option maxHeartbeats 1000000 in
theorem sameTold_yes (ao bo : Option Addr) (c c' : Nat) (z : List Int) (v e : Int) (w : World) (hx : Seen w ao z.length z) (hy : Seen w bo z.length z) :
    Calls Try.prog 15 #[.agg (tdC (.slice ao z.length c) v e).toArray, .agg (tdC (.slice bo z.length c') v e).toArray] w fun en w' => en = .returned (.bool true) ∧ Below w.heap.size w w' := by
  have X : Hid (Seen w ao z.length z ∧ Seen w bo z.length z) := ⟨hx, hy⟩
  obtain ⟨n, hn⟩ : ∃ n, z.length = n := ⟨_, rfl⟩
  rw [hn] at X ⊢
  clear hx hy hn
  have qv : (v == v) = true := by simp
  have qe : (e == e) = true := by simp
  go_enter Try.func15, Try.ntmps15
  go_wp2_with (first | ((with_reducible show wpList _ _ _ (({ dst := some 2, op := _, type := _, pos := _, after := _, guard := _ } : Oper) :: _) _ _); refine wpList_box_new rfl 43 _ rfl (tdC (.slice ao n c) v e) rfl ?_; intro w1 b1 s1 l1; have z1 : Hid (w1.heap.size = w.heap.size + 1) := s1; clear s1) | ((with_reducible show wpList _ _ _ (({ dst := some 3, op := _, type := _, pos := _, after := _, guard := _ } : Oper) :: _) _ _); refine wpList_box_new rfl 43 _ rfl (tdC (.slice bo n c') v e) rfl ?_; intro w2 b2 s2 l2; have z2 : Hid (w2.heap.size = w1.heap.size + 1) := s2; clear s2; have c0 : w2.cell? ⟨w.heap.size, 0, none⟩ = some (.slice ao n c) := (b1.later l2 b1.lt).cell 0; have c1 : w2.cell? ⟨w1.heap.size, 0, none⟩ = some (.slice bo n c') := b2.cell 0))
  have V2 : Hid (Below w.heap.size w w2 ∧ Blk w2 w.heap.size 43 (tdC (.slice ao n c) v e) ∧ Blk w2 w1.heap.size 43 (tdC (.slice bo n c') v e)) := ⟨below_chain l1 l2 l1.size, b1.later l2 b1.lt, b2⟩
  clear b1 b2 l1 l2
  refine (reqb_any ao bo n n c c' z z w2 (X.out.1.later V2.out.1 (Nat.le_refl _)) (X.out.2.later V2.out.1 (Nat.le_refl _))).mono ?_
  rintro en w3 ⟨rfl, q, hw3⟩
  rw [show decide (z = z) = true by simp]
  have V3 : Hid (Below w.heap.size w w3) := by rw [hw3]; exact below_dn V2.out.1 _
  have d1 : w3.cell? ⟨w.heap.size, 1, none⟩ = some (.int .u64 v) := by rw [hw3]; exact V2.out.2.1.cell 1
  have d2 : w3.cell? ⟨w.heap.size, 2, none⟩ = some (.int .i64 e) := by rw [hw3]; exact V2.out.2.1.cell 2
  have d3 : w3.cell? ⟨w1.heap.size, 1, none⟩ = some (.int .u64 v) := by rw [hw3]; exact V2.out.2.2.cell 1
  have d4 : w3.cell? ⟨w1.heap.size, 2, none⟩ = some (.int .i64 e) := by rw [hw3]; exact V2.out.2.2.cell 2
  clear hw3 c0 c1
  go_wp2_with fail
  go_ret
  exact ⟨rfl, V3.out⟩
def lifeC (pages size : Int) (fv sv : Value) : List Value := [.int .i64 pages, .int .i64 size, fv, sv]
instance (p s : Int) : Decidable (fitsP p s) := by unfold fitsP; infer_instance
theorem fits_any (pages size : Int) (fv sv : Value) (w : World) : Calls Try.prog 12 #[.agg (lifeC pages size fv sv).toArray] w fun e w' => e = .returned (.bool (decide (fitsP pages size))) ∧ Below w.heap.size w w' := by
  have HB : ∀ w1 : World, Blk w1 w.heap.size 25 (lifeC pages size fv sv) → w1.cell? ⟨w.heap.size, 0, none⟩ = some (.int .i64 pages) ∧ w1.cell? ⟨w.heap.size, 1, none⟩ = some (.int .i64 size) := fun w1 b => ⟨b.cell 0, b.cell 1⟩
  rcases (show pages < 0 ∨ (0 ≤ pages ∧ 65536 < pages) ∨ (0 ≤ pages ∧ pages ≤ 65536 ∧ size < 1) ∨ (0 ≤ pages ∧ pages ≤ 65536 ∧ 1 ≤ size ∧ 4124 < size) ∨ (0 ≤ pages ∧ pages ≤ 65536 ∧ 1 ≤ size ∧ size ≤ 4124) by omega) with h | ⟨h, h1⟩ | ⟨h, h1, h2⟩ | ⟨h, h1, h2, h3⟩ | ⟨h, h1, h2, h3⟩
  all_goals
    go_enter Try.func12, Try.ntmps12
    go_wp2_with (first | (refine wpList_box_new rfl 25 _ rfl (lifeC pages size fv sv) rfl ?_; intro w1 b1 s1 l1; obtain ⟨c0, c1⟩ := HB w1 b1))
    go_ret
    exact ⟨ret_bool (by first | (symm; apply decide_eq_false; unfold fitsP; omega) | (symm; apply decide_eq_true; unfold fitsP; omega) | (apply decide_eq_decide.2; unfold fitsP; omega)), l1⟩
/-- Touches as data. -/
structure TcS (w : World) (v : Value) (l : List Tc) : Prop where
  good : ∀ t ∈ l, t.Good
  ex : ∃ a c, v = .slice a l.length c ∧ ∀ i, i < l.length → ∃ g o, a = some ⟨g, o, none⟩ ∧ g < w.heap.size ∧ w.rangeAt g (o + i * 15) (tcC (l.getD i default))
theorem tflat_at (l : List Tc) (hg : ∀ t ∈ l, t.Good) (i j : Nat) (hi : i < l.length) (hj : j < 15) : (l.flatMap tcC)[i * 15 + j]? = (tcC (l.getD i default))[j]? := by
  induction l generalizing i with
  | nil => cases hi
  | cons a r ih =>
    have ha := tcC_length (hg a (by simp))
    rw [List.flatMap_cons]
    cases i with
    | zero => rw [Nat.zero_mul, Nat.zero_add, List.getElem?_append_left (by omega)]; rfl
    | succ i =>
      rw [List.getElem?_append_right (by omega), ha, show (i + 1) * 15 + j - 15 = i * 15 + j by omega, ih (fun t ht => hg t (by simp [ht])) i (by simpa using hi)]
      simp
theorem tcs_own {w : World} {B : Nat} {v : Value} {l : List Tc} (h : w.ownsRow B 49 15 v l.length (l.flatMap tcC)) (hg : ∀ t ∈ l, t.Good) : TcS w v l := by
  refine ⟨hg, ?_⟩
  rcases h.2 with ⟨h2, h3⟩ | ⟨g, cap, cur, hv, _, hh, hc, _, hs, ht⟩
  · rw [h2, h3]
    exact ⟨none, 0, rfl, fun i hi => (by omega)⟩
  · rw [hv]
    refine ⟨_, cap, rfl, fun i hi => ⟨g, 0, rfl, lt_of_block hh, fun j u hj => ?_⟩⟩
    have hgi : (l.getD i default).Good := by
      have e : l.getD i default = l[i] := by simp [List.getD, hi]
      rw [e]; exact hg _ (List.getElem_mem hi)
    have hj15 : j < 15 := by have := (List.getElem?_eq_some_iff.1 hj).1; rw [tcC_length hgi] at this; exact this
    rw [Nat.zero_add, cell_of_row w g _ cur 49 (0, 0) hh, ← hj, ← tflat_at l hg i j hi hj15, ← ht, List.getElem?_take, if_pos (by omega)]
    simp
set_option maxRecDepth 20000 in
set_option maxHeartbeats 1000000 in
theorem sameLog_yes (v u : Value) (l : List Tc) (w : World) (x : TcS w v l) (y : TcS w u l) (hl : l.length ≤ 3000000000000) : Calls Try.prog 16 #[v, u] w fun e w' => e = .returned (.bool true) ∧ ∃ q, w' = w.drewN q := by
  obtain ⟨a, c, rfl, hx⟩ := x.ex
  obtain ⟨b, d, rfl, hy⟩ := y.ex
  have X : Hid ((∀ t ∈ l, t.Good) ∧ (∀ i, i < l.length → ∃ g o, a = some ⟨g, o, none⟩ ∧ g < w.heap.size ∧ w.rangeAt g (o + i * 15) (tcC (l.getD i default))) ∧ (∀ i, i < l.length → ∃ g o, b = some ⟨g, o, none⟩ ∧ g < w.heap.size ∧ w.rangeAt g (o + i * 15) (tcC (l.getD i default)))) := ⟨x.good, hx, hy⟩
  clear x y hx hy
  obtain ⟨n, hn⟩ : ∃ n, l.length = n := ⟨_, rfl⟩
  rw [hn] at hl ⊢
  have HN : Hid (l.length = n) := hn
  clear hn
  have qn : ((n : Int) != (n : Int)) = false := by simp
  go_enter Try.func16, Try.ntmps16
  go_wp2
  go_loopw [5] (fun i wr => ∃ k : Nat, k ≤ n ∧ i = .int .i64 k ∧ ∃ q, wr = w.drewN q) (fun i _ => n - (intOf i).toNat)
  case atStart => exact ⟨0, Nat.zero_le _, rfl, 0, rfl⟩
  case round =>
    obtain ⟨k, hk, rfl, q, hwr⟩ := hrel
    by_cases hlt : k < n
    · obtain ⟨g, o, rfl, _, r1⟩ := X.out.2.1 k (by rw [HN.out]; exact hlt)
      obtain ⟨g', o', rfl, _, r2⟩ := X.out.2.2 k (by rw [HN.out]; exact hlt)
      obtain ⟨t, ht⟩ : ∃ t, l.getD k default = t := ⟨_, rfl⟩
      rw [ht] at r1 r2
      have hg : t.Good := by
        have e : l.getD k default = l[k]'(by rw [HN.out]; exact hlt) := by simp [List.getD, HN.out, hlt]
        rw [← ht, e]; exact X.out.1 _ (List.getElem_mem _)
      have HR : Hid (wr.rangeAt g (o + k * 15) (tcC t) ∧ wr.rangeAt g' (o' + k * 15) (tcC t) ∧ t.Good ∧ wr = w.drewN q) := by
        rw [hwr]; exact ⟨r1, r2, hg, rfl⟩
      have i1 : (0 : Int) ≤ (k : Int) := by omega
      have i2 : (k : Int) < (n : Int) := by omega
      have hne := neq_tc t hg
      have hgd : Try.prog.eqGuardType Try.prog.depth 49 = false := by kernel_rfl
      clear r1 r2 ht hg hwr
      go_wp2_with fail
      refine wp_region_noPanic (wp_region_held_drew (S := fun W => W.rangeAt g (o + k * 15) (tcC t) ∧ W.rangeAt g' (o' + k * 15) (tcC t)) (by kernel_rfl) ⟨HR.out.1, HR.out.2.1⟩ (fun hH => ?_))
      refine hTake 0 (some 17) (.slice (some ⟨g, o, none⟩) n c) rfl rfl (by kernel_rfl) (by kernel_rfl) (by kernel_rfl) (fun _ _ _ h => h) (by rfl) (fun W' hS' => by go_simp) hH ?_
      simp only [Act.put, List.setIfInBounds_toArray, List.set_cons_zero, List.set_cons_succ]
      refine hTake 1 (some 18) (.int .i64 k) rfl rfl (by kernel_rfl) (by kernel_rfl) (by kernel_rfl) (fun _ _ _ h => h) (by rfl) (fun W' hS' => by go_simp) hH ?_
      simp only [Act.put, List.setIfInBounds_toArray, List.set_cons_zero, List.set_cons_succ]
      refine hTake 2 (some 19) (.pointer (some ⟨g, o + k * 15, none⟩)) rfl rfl (by kernel_rfl) (by kernel_rfl) (by kernel_rfl) (fun _ _ _ h => h) (by rfl) (fun W' hS' => by go_simp) hH ?_
      simp only [Act.put, List.setIfInBounds_toArray, List.set_cons_zero, List.set_cons_succ]
      refine hLoad 3 (some 20) (tcC t) rfl rfl (by kernel_rfl) (by kernel_rfl) (by kernel_rfl) (fun _ _ _ h => h) (by rfl) 49 (.tmp 19) rfl g (o + k * 15) rfl _ (fun _ h => h.1) Try.underlying49 rfl (sizeTc HR.out.2.2.1) hH ?_
      simp only [Act.put, List.setIfInBounds_toArray, List.set_cons_zero, List.set_cons_succ]
      refine hTake 4 (some 21) (.slice (some ⟨g', o', none⟩) n d) rfl rfl (by kernel_rfl) (by kernel_rfl) (by kernel_rfl) (fun _ _ _ h => h) (by rfl) (fun W' hS' => by go_simp) hH ?_
      simp only [Act.put, List.setIfInBounds_toArray, List.set_cons_zero, List.set_cons_succ]
      refine hTake 5 (some 22) (.int .i64 k) rfl rfl (by kernel_rfl) (by kernel_rfl) (by kernel_rfl) (fun _ _ _ h => h) (by rfl) (fun W' hS' => by go_simp) hH ?_
      simp only [Act.put, List.setIfInBounds_toArray, List.set_cons_zero, List.set_cons_succ]
      refine hTake 6 (some 23) (.pointer (some ⟨g', o' + k * 15, none⟩)) rfl rfl (by kernel_rfl) (by kernel_rfl) (by kernel_rfl) (fun _ _ _ h => h) (by rfl) (fun W' hS' => by go_simp) hH ?_
      simp only [Act.put, List.setIfInBounds_toArray, List.set_cons_zero, List.set_cons_succ]
      refine hLoad 7 (some 24) (tcC t) rfl rfl (by kernel_rfl) (by kernel_rfl) (by kernel_rfl) (fun _ _ _ h => h) (by rfl) 49 (.tmp 23) rfl g' (o' + k * 15) rfl _ (fun _ h => h.2) Try.underlying49 rfl (sizeTc HR.out.2.2.1) hH ?_
      simp only [Act.put, List.setIfInBounds_toArray, List.set_cons_zero, List.set_cons_succ]
      refine hTake 8 (some 25) (.bool false) rfl rfl (by kernel_rfl) (by kernel_rfl) (by kernel_rfl) (fun _ _ _ h => h) (by rfl) (fun W' hS' => by simp [execOp, Act.eval, run_eqGuard_agg _ _ _ _ _ _ _ hgd, hne]) hH ?_
      simp only [Act.put, List.setIfInBounds_toArray, List.set_cons_zero, List.set_cons_succ]
      refine wpAnyH_done (by kernel_rfl) (NoPanic.normal ?_) _
      clear hH hne
      go_wp2_with fail
      go_roundw
      case rel => exact ⟨k + 1, by omega, by go_num, q + 1, by rw [HR.out.2.2.2]; rfl⟩
      case measure => simp [intOf] <;> omega
    · obtain rfl : k = n := by omega
      have HW : Hid (wr = w.drewN q) := hwr
      clear hwr
      go_wp2
      go_ret
      exact ⟨rfl, q, HW.out⟩
end Go.Proofs.Ytobcolpdkcppoaa
