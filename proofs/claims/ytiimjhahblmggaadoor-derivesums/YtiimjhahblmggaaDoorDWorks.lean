/- Layer digest: works. -/
import Derived.Test.YtiimjhahblmggaaDoorDDsum
import Derived.Laws.StructEq
import Derived.Lib.SmallJoins
namespace Go.Proofs.YtiimjhahblmggaaDoor
open Go.RowKit Go.Joins
set_option linter.unusedVariables false
set_option linter.unusedSimpArgs false

theorem abc : (sha [97, 98, 99]).getD 0 0 = 186 ∧ (sha [97, 98, 99]).getD 1 0 = 120 ∧ (sha [97, 98, 99]).getD 31 0 = 173 := by decide +kernel
theorem infoByte : (Tryd.prog.info? 5).map (fun i => (i.zero, i.size)) = some (some (.int .u8 0), 1) := by kernel_rfl
/-- An array of bytes is itself. -/
theorem equal_self (d : Nat) (zs : List Int) (hl : zs.length = 32) (w : World) : (Op.equalIn (d + 2) 28 (.agg (u8s zs).toArray) (.agg (u8s zs).toArray)).run Tryd.prog w = .ok true w := by
  have hsz : ∀ w, (sizeOf 5).run Tryd.prog w = .ok 1 w := fun w => by
    have h := infoByte
    cases hq : Tryd.prog.info? 5 with
    | none => simp [hq] at h
    | some i => simp [hq] at h; simp [sizeOf, typeInfo, hq, h.2]
  have ht := Tryd.underlying28
  have he := Tryd.underlying5
  rw [Op.equalIn]
  simp only [Sem.run_bind, run_underlying ht, Result.andThen_ok, hsz, Std.Legacy.Range.forIn_eq_forIn_range', Std.Legacy.Range.size, Nat.sub_zero, Nat.add_sub_cancel, Nat.div_one]
  have hlr : ∀ i ∈ List.range' 0 32 1, i < 32 := fun i hi => by simpa using (List.mem_range'_1.1 hi).2
  generalize List.range' 0 32 1 = l at hlr ⊢
  induction l with
  | nil => simp
  | cons i l ih =>
    have hi : i < 32 := hlr i (by simp)
    have px : (part 5 (u8s zs).toArray (i * 1)).run Tryd.prog w = .ok (.int .u8 (zs.getD i 0)) w := by
      simp [part, isAgg, run_underlying he, u8s, List.getD, List.getElem?_eq_getElem (show i < zs.length by omega)]
    have pe : (Op.equalIn (d + 1) 5 (.int .u8 (zs.getD i 0)) (.int .u8 (zs.getD i 0))).run Tryd.prog w = .ok true w := by
      rw [run_equalIn_int w d 5 .u8 .u8 _ _ he]; simp
    simp only [List.forIn_cons, Sem.run_bind, px, pe, Result.andThen_ok]
    simp only [Bool.not_true, Bool.false_eq_true, if_false, Sem.run_pure, Result.andThen_ok]
    exact ih fun j hj => hlr j (by simp [hj])
theorem none_seenP (w : World) (c : Nat) : SeenP w none 0 [] := ⟨rfl, fun i hi => by omega⟩
/-- Three lists in a new row of headers. -/
theorem seenP3 (W : World) (s1 s2 s3 : Option Addr) (c1 c2 c3 : Nat) (z1 z2 z3 : List Int) (h1 : Seen W s1 z1.length z1) (h2 : Seen W s2 z2.length z2) (h3 : Seen W s3 z3.length z3) (l1 : z1.length ≤ c1) (l2 : z2.length ≤ c2) (l3 : z3.length ≤ c3) :
    SeenP (W.alloc (.cells #[.slice s1 z1.length c1, .slice s2 z2.length c2, .slice s3 z3.length c3] 22)) (some ⟨W.heap.size, 0, none⟩) 3 [z1, z2, z3] := by
  have hb : Below W.heap.size W (W.alloc (.cells #[.slice s1 z1.length c1, .slice s2 z2.length c2, .slice s3 z3.length c3] 22)) := (Below.refl _ _).alloc (Nat.le_refl _) _
  have hh : (W.alloc (.cells #[.slice s1 z1.length c1, .slice s2 z2.length c2, .slice s3 z3.length c3] 22)).heap[W.heap.size]? = some (.cells [.slice s1 z1.length c1, .slice s2 z2.length c2, .slice s3 z3.length c3].toArray 22 (0, 0)) := heap_alloc_new W _
  refine ⟨rfl, fun i hi => ?_⟩
  rcases (by omega : i = 0 ∨ i = 1 ∨ i = 2) with rfl | rfl | rfl
  · exact ⟨_, 0, s1, c1, rfl, by simp, by rw [cell_of_row _ _ _ _ _ _ hh]; rfl, h1.later hb (Nat.le_refl _), l1⟩
  · exact ⟨_, 0, s2, c2, rfl, by simp, by rw [cell_of_row _ _ _ _ _ _ hh]; rfl, h2.later hb (Nat.le_refl _), l2⟩
  · exact ⟨_, 0, s3, c3, rfl, by simp, by rw [cell_of_row _ _ _ _ _ _ hh]; rfl, h3.later hb (Nat.le_refl _), l3⟩
theorem seen_lit (W : World) (zs : List Int) (fr : Nat × Nat) (hb : Bytes zs) (ht : zs.length ≤ 1000) : Seen (W.alloc (.cells (zs.map (Value.int .u8)).toArray 5 fr)) (some ⟨W.heap.size, 0, none⟩) zs.length zs :=
  ⟨rfl, by omega, hb, fun _ => ⟨W.heap.size, 0, rfl, by simp, fun i hi => by
    rw [Nat.zero_add, World.cell?_alloc_mark]
    simp [hi, List.getD]⟩⟩
theorem works_seen (w : World) : SeenP (((w.alloc (.cells #[.int .u8 97] 5 (1, 2))).alloc (.cells #[.int .u8 98, .int .u8 99] 5 (2, 3))).alloc (.cells #[.slice (some ⟨w.heap.size, 0, none⟩) 1 1, .slice none 0 0, .slice (some ⟨w.heap.size + 1, 0, none⟩) 2 2] 22)) (some ⟨w.heap.size + 1 + 1, 0, none⟩) 3 [[97], [], [98, 99]] := by
  have h1 := seen_lit w [97] (1, 2) (by intro z hz; simp at hz; omega) (by decide)
  have h3 := seen_lit (w.alloc (.cells #[.int .u8 97] 5 (1, 2))) [98, 99] (2, 3) (by intro z hz; simp at hz; omega) (by decide)
  have e1 : (w.alloc (.cells #[.int .u8 97] 5 (1, 2))).heap.size = w.heap.size + 1 := by simp
  have e2 : ((w.alloc (.cells #[.int .u8 97] 5 (1, 2))).alloc (.cells #[.int .u8 98, .int .u8 99] 5 (2, 3))).heap.size = w.heap.size + 1 + 1 := by simp
  have hb : Below (w.heap.size + 1) (w.alloc (.cells #[.int .u8 97] 5 (1, 2))) ((w.alloc (.cells #[.int .u8 97] 5 (1, 2))).alloc (.cells #[.int .u8 98, .int .u8 99] 5 (2, 3))) := (Below.refl _ _).alloc (by simp) _
  have := seenP3 ((w.alloc (.cells #[.int .u8 97] 5 (1, 2))).alloc (.cells #[.int .u8 98, .int .u8 99] 5 (2, 3))) (some ⟨w.heap.size, 0, none⟩) none (some ⟨w.heap.size + 1, 0, none⟩) 1 0 2 [97] [] [98, 99] (h1.later hb (by simp)) (Seen.empty _ _) (by rw [e1] at h3; exact h3) (by decide) (by decide) (by decide)
  rw [e2] at this
  exact this
end Go.Proofs.YtiimjhahblmggaaDoor
