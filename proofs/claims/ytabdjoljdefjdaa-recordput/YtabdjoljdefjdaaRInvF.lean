/- chainGOps, told fast: for each operation one that waits for it. -/
import Derived.Test.YtabdjoljdefjdaaRInvGU
namespace Go.Proofs.Ytabdjoljdefjdaa
open Go.RowKit
set_option linter.unusedVariables false
set_option linter.unusedSimpArgs false
def direct (ops : Array Oper) (j k : Nat) : Bool := ((ops[j]?).map fun o => o.after.any fun e => Region.binds .any e && e.on == k).getD false
theorem lean_direct {ops : Array Oper} {j k : Nat} (h : direct ops j k = true) (f : Nat) : leansOn ops (f + 1) j k = true := by
  unfold direct at h
  cases ho : ops[j]? with
  | none => rw [ho] at h; cases h
  | some o =>
    rw [ho] at h
    simp only [Option.map_some, Option.getD_some, Array.any_eq_true, Bool.and_eq_true] at h
    obtain ⟨x, hx, hb, he⟩ := h
    simp only [leansOn, ho, Option.map_some, Option.getD_some, Array.any_eq_true, Bool.and_eq_true, Bool.or_eq_true]
    exact ⟨x, hx, hb, .inl he⟩
theorem lean_mono {ops : Array Oper} : ∀ {f j k : Nat}, leansOn ops f j k = true → leansOn ops (f + 1) j k = true
  | 0, _, _, h => by cases h
  | f + 1, j, k, h => by
    cases ho : ops[j]? with
    | none => simp [leansOn, ho] at h
    | some o =>
      simp only [leansOn, ho, Option.map_some, Option.getD_some, Array.any_eq_true, Bool.and_eq_true, Bool.or_eq_true] at h
      obtain ⟨x, hx, hb, he⟩ := h
      rw [leansOn, ho]
      simp only [Option.map_some, Option.getD_some, Array.any_eq_true, Bool.and_eq_true, Bool.or_eq_true]
      exact ⟨x, hx, hb, he.elim .inl (fun q => .inr (lean_mono q))⟩
theorem lean_le {ops : Array Oper} {f g j k : Nat} (h : leansOn ops f j k = true) (hg : f ≤ g) : leansOn ops g j k = true := by
  obtain ⟨d, rfl⟩ : ∃ d, g = f + d := ⟨g - f, by omega⟩
  clear hg
  induction d with
  | zero => exact h
  | succ d ih => exact lean_mono ih
theorem lean_trans {ops : Array Oper} {j k : Nat} (hd : direct ops j k = true) : ∀ {f i : Nat}, leansOn ops f i j = true → leansOn ops (f + 1) i k = true
  | 0, _, h => by cases h
  | f + 1, i, h => by
    cases ho : ops[i]? with
    | none => simp [leansOn, ho] at h
    | some o =>
      simp only [leansOn, ho, Option.map_some, Option.getD_some, Array.any_eq_true, Bool.and_eq_true, Bool.or_eq_true, beq_iff_eq] at h
      obtain ⟨x, hx, hb, he⟩ := h
      rw [leansOn, ho]
      simp only [Option.map_some, Option.getD_some, Array.any_eq_true, Bool.and_eq_true, Bool.or_eq_true]
      refine ⟨x, hx, hb, .inr ?_⟩
      rcases he with he | he
      · rw [he]; exact lean_direct hd f
      · exact lean_trans hd he
/-- For each operation but the last one that waits for it. -/
def nexts (ops : Array Oper) (nx : List Nat) : Bool := (List.range (ops.size - 1)).all fun k => decide (k < nx.getD k 0) && decide (nx.getD k 0 ≤ ops.size - 1) && direct ops (nx.getD k 0) k
theorem nexts_lean {ops : Array Oper} {nx : List Nat} (h : nexts ops nx = true) : ∀ d k, k + d = ops.size - 1 → 0 < d → leansOn ops d (ops.size - 1) k = true := by
  intro d
  induction d using Nat.strongRecOn with
  | ind d ih =>
    intro k hk hd
    have h1 := List.all_eq_true.1 h k (List.mem_range.2 (by omega))
    simp only [Bool.and_eq_true, decide_eq_true_eq] at h1
    obtain ⟨⟨h2, h3⟩, h4⟩ := h1
    obtain ⟨j, hj⟩ : ∃ j, nx.getD k 0 = j := ⟨_, rfl⟩
    rw [hj] at h2 h3 h4
    by_cases e : j = ops.size - 1
    · rw [e] at h4
      exact lean_le (lean_direct h4 0) (by omega)
    · have := ih (ops.size - 1 - j) (by omega) j (by omega) (by omega)
      exact lean_le (lean_trans h4 this) (by omega)
def fastG (ops : Array Oper) (nx : List Nat) : Bool :=
  (List.range (ops.size - 1)).all (fun j => ((ops[j]?).map (fun o => (match o.guard with | none => true | some (k, _) => decide (k + 1 < ops.size) && o.after.any (fun e => Region.binds .any e && e.on == k)) && o.dst.isSome)).getD false) &&
  (List.range (ops.size - 1)).all (fun j => (List.range (ops.size - 1)).all fun k => j == k || ((ops[j]?).bind (·.dst)) != ((ops[k]?).bind (·.dst))) &&
  (((ops[ops.size - 1]?).map (fun o => o.guard.isNone)).getD false && nexts ops nx) &&
  (List.range ops.size).all (fun j => ((ops[j]?).map (fun o => o.after.all fun e => !Region.binds .any e || decide (e.on < j))).getD false)
theorem fast_chain {ops : Array Oper} (nx : List Nat) (h : fastG ops nx = true) : chainGOps ops = true := by
  simp only [fastG, Bool.and_eq_true] at h
  obtain ⟨⟨⟨h1, h2⟩, h3, h4⟩, h5⟩ := h
  simp only [chainGOps, Bool.and_eq_true]
  refine ⟨⟨⟨h1, h2⟩, ?_⟩, h5⟩
  cases ho : ops[ops.size - 1]? with
  | none => rw [ho] at h3; cases h3
  | some o =>
    rw [ho] at h3
    simp only [Option.map_some, Option.getD_some, Bool.and_eq_true] at h3 ⊢
    refine ⟨h3, List.all_eq_true.2 fun k hk => ?_⟩
    have hk' := List.mem_range.1 hk
    exact lean_le (nexts_lean h4 (ops.size - 1 - k) k (by omega) (by omega)) (by omega)
end Go.Proofs.Ytabdjoljdefjdaa
