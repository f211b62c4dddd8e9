/- The document's writers (trystref02): NewWriter, Left; 'Wr' of OWrite serves them too. -/
import Derived.Test.YtgcpckkhkppnhaaOWrite
namespace Go.Proofs.Ytgcpckkhkppnhaa
open Go.RowKit
set_option linter.unusedVariables false
set_option linter.unusedSimpArgs false

theorem Wr.rnew (w1 : World) (size : Nat) (ht : size ≤ 1048576) : Wr (w1.alloc (.cells #[.int .i64 size, .slice none 0 0, .int .i64 0] 61)) w1.heap.size (.slice none 0 0) size [] 0 := by
  have h : (w1.alloc (.cells #[.int .i64 size, .slice none 0 0, .int .i64 0] 61)).heap[w1.heap.size]? = some (.cells #[.int .i64 size, .slice none 0 0, .int .i64 0] 61 (0, 0)) := heap_alloc_new w1 _
  refine ⟨?_, ?_, ?_, ?_, ?_, World.ownsRow_nil _ _ _ _, Nat.zero_le _, ht, fun z hz => (by cases hz), fun g hg => (by cases hg), by simp⟩
  · rw [cell_of_row _ _ 0 _ 61 (0, 0) h]; rfl
  · rw [cell_of_row _ _ 1 _ 61 (0, 0) h]; rfl
  · rw [cell_of_row _ _ 2 _ 61 (0, 0) h]; rfl
  · exact frozen_of_row _ _ 1 _ 61 h
  · exact frozen_of_row _ _ 2 _ 61 h
theorem rwnew_bad (size : Int) (h : nwE size ≠ 0) (w : World) :
    Calls Try.prog 15 #[.int .i64 size] w fun en w' => en = .returned (.tuple #[.pointer none, .int .i64 (nwE size)]) ∧ w = w' := by
  by_cases h0 : size < 0
  · have e : nwE size = 2 := by simp [nwE, h0]
    rw [e]
    go_enter Try.func15, Try.ntmps15
    go_wp2
    go_ret2
    exact ⟨rfl, rfl⟩
  · by_cases h1 : 1048576 < size
    · have e : nwE size = 3 := by simp [nwE, h0, h1]
      rw [e]
      go_enter Try.func15, Try.ntmps15
      go_wp2
      go_ret2
      exact ⟨rfl, rfl⟩
    · exact absurd (by simp [nwE, h0, h1]) h
theorem rwnew_any (size : Nat) (ht : size ≤ 1048576) (w : World) :
    Calls Try.prog 15 #[.int .i64 size] w fun en w' => ∃ r, en = .returned (.tuple #[.pointer (some ⟨r, 0, none⟩), .int .i64 0]) ∧ Wr w' r (.slice none 0 0) size [] 0 ∧ w.heap.size ≤ r ∧ Below w.heap.size w w' := by
  have HW : Hid _ := Wr.rnew w size ht
  have HB : Hid (Below w.heap.size w (w.alloc (.cells #[.int .i64 size, .slice none 0 0, .int .i64 0] 61))) := (Below.refl _ _).alloc (Nat.le_refl _) _
  have i1 : ¬ (1048576 : Int) < (size : Int) := by omega
  go_enter Try.func15, Try.ntmps15
  go_wp2
  go_ret2
  exact ⟨_, rfl, HW.out, Nat.le_refl _, HB.out⟩
theorem rwleft_any (r : Nat) (v : Value) (size : Nat) (zs : List Int) (e : Int) (w : World) (h : Wr w r v size zs e) :
    Calls Try.prog 18 #[.pointer (some ⟨r, 0, none⟩)] w fun en w' => en = .returned (.int .i64 ((size : Int) - zs.length)) ∧ ∃ q, w' = w.drewN q := by
  have c0 := h.c0
  have c1 := h.c1
  obtain ⟨vo, cv, rfl⟩ := own_form h.own
  have hs := h.hs
  have ht := h.ht
  generalize zs.length = n at *
  have i1 : -9223372036854775808 ≤ (size : Int) - n := by omega
  have i2 : (size : Int) - n ≤ 9223372036854775807 := by omega
  clear h
  go_enter Try.func18, Try.ntmps18
  go_wp2
  go_quiet (fail)
  go_wp2
  go_ret
  exact ⟨rfl, _, rfl⟩
end Go.Proofs.Ytgcpckkhkppnhaa
