/- Copy and Trade over what was lent: the marks behind stay. -/
import Derived.Test.YtldfbbgboelngabRCopy
namespace Go.Proofs.Ytldfbbgboelngab
open Go.RowKit
set_option linter.unusedVariables false

theorem RowAt.later {w w' : World} {g : Nat} {zs : List Int} (h : RowAt w g zs) {B : Nat} (hb : Below B w w') (hB : w.heap.size ≤ B) : RowAt w' g zs := h.block (hb.block g (Nat.lt_of_lt_of_le h.lt hB))
theorem RowAt.kept {S : Nat → Prop} {w w' : World} {g : Nat} {zs : List Int} (h : RowAt w g zs) (hk : Kept S w w') (hS : ¬ S g) : RowAt w' g zs := h.block (hk.block g h.lt hS)
theorem Seen.drew {w : World} {ao : Option Addr} {n : Nat} {zs : List Int} (h : Seen w ao n zs) : Seen w.drew ao n zs := h.drewN 1
theorem Seen.kept {S : Nat → Prop} {w w' : World} {ao : Option Addr} {n : Nat} {zs : List Int} (h : Seen w ao n zs) (hk : Kept S w w') (hS : ∀ b o, 0 < n → ao = some ⟨b, o, none⟩ → ¬ S b) : Seen w' ao n zs :=
  ⟨h.len, h.top, h.bytes, fun hn => by
    obtain ⟨b, o, e, hlt, hc⟩ := h.cells hn
    exact ⟨b, o, e, Nat.lt_of_lt_of_le hlt hk.size, fun i hi => (hk.cell (p := ⟨b, o + i, none⟩) hlt (hS b o hn e)).trans (hc i hi)⟩⟩
theorem Seen.old {w : World} {ao : Option Addr} {n : Nat} {zs : List Int} (h : Seen w ao n zs) {B : Nat} (hB : w.heap.size ≤ B) : ∀ b o, 0 < n → ao = some ⟨b, o, none⟩ → b < B := by
  intro b o hn e
  obtain ⟨b', o', e', hlt, _⟩ := h.cells hn
  rw [e] at e'
  simp at e'
  omega
theorem own_seen {w : World} {base : Nat} {v : Value} {n : Nat} {zs : List Int} (hl : zs.length = n) (hb : Bytes zs) (ht : n ≤ 140737488355328) (h : w.ownsRow base 5 1 v n (zs.map (Value.int .u8))) :
    ∃ vo cap, v = .slice vo n cap ∧ Seen w vo n zs ∧ ∀ b o, vo = some ⟨b, o, none⟩ → base ≤ b := by
  rcases own_len hl h with ⟨rfl, rfl⟩ | ⟨g, cap, rfl, hr, hg, _, _⟩
  · have e : zs = [] := List.length_eq_zero_iff.1 hl
    subst e
    exact ⟨none, 0, rfl, Seen.empty _ _, fun b o h => by cases h⟩
  · refine ⟨_, cap, rfl, ?_, fun b o h => by simp at h; omega⟩
    have := Seen.of_row (n := n) hr (by omega) ht hb
    rwa [List.take_of_length_le (by omega)] at this
theorem mix_marks (m : Int) (n : Nat) (xs ys : List Int) (hx : xs.length = n) : mix m n (xs ++ marks) ys = mix m n xs ys ++ marks := by
  apply List.ext_getElem?
  intro i
  unfold mix
  rw [List.getElem?_append, List.length_mapIdx]
  by_cases h : i < xs.length
  · rw [if_pos h]
    simp [h, List.getElem?_append]
  · rw [if_neg h, List.getElem?_mapIdx, List.getElem?_append_right (by omega)]
    have : ¬ i < n := by omega
    simp [this]
theorem mix_more (m : Int) (n : Nat) (xs ys zs : List Int) (hy : n ≤ ys.length) : mix m n xs (ys ++ zs) = mix m n xs ys := by
  apply List.ext_getElem?
  intro i
  unfold mix
  rw [List.getElem?_mapIdx, List.getElem?_mapIdx]
  by_cases h : i < n
  · simp [h, List.getD, List.getElem?_append, show i < ys.length by omega]
  · simp [h]
theorem bytes_marks {xs : List Int} (h : Bytes xs) : Bytes (xs ++ marks) := by
  intro z hz
  rcases List.mem_append.1 hz with hz | hz
  · exact h z hz
  · exact marks_bytes z hz

theorem copy_lent (m : Int) (hm : Word m) (g h n cg ch : Nat) (xs ys : List Int) (w : World) (hgh : h ≠ g) (hx : xs.length = n) (hy : ys.length = n) (bx : Bytes xs) (bY : Bytes ys) (hn : n ≤ 140737488355328) (hg : RowAt w g (xs ++ marks)) (hh : RowAt w h (ys ++ marks)) :
    Calls Try.prog 16 #[.int .u64 m, .slice (some ⟨g, 0, none⟩) n cg, .slice (some ⟨h, 0, none⟩) n ch] w fun e w' =>
      e = .returned (.int .i64 0) ∧ RowAt w' g (mix m n xs ys ++ marks) ∧ Kept (fun k => k = g) w w' := by
  refine (copy_any m hm g h 0 n cg ch (xs ++ marks) (ys ++ marks) hgh (by simp; omega) (by simp; omega) (bytes_marks bx) (bytes_marks bY) (by unfold maxLen; omega) w hg hh.lt (fun i hi => by rw [Nat.zero_add]; exact hh.cell i (by simp; omega))).mono ?_
  rintro e w' ⟨he, hr, hk⟩
  rw [mix_marks m n xs _ hx, mix_more m n xs ys marks (by omega)] at hr
  exact ⟨he, hr, hk⟩
theorem trade_lent (m : Int) (hm : Word m) (g h n cg ch : Nat) (xs ys : List Int) (w : World) (hgh : g ≠ h) (hx : xs.length = n) (hy : ys.length = n) (bx : Bytes xs) (bY : Bytes ys) (hn : n ≤ 140737488355328) (hg : RowAt w g (xs ++ marks)) (hh : RowAt w h (ys ++ marks)) :
    Calls Try.prog 13 #[.int .u64 m, .slice (some ⟨g, 0, none⟩) n cg, .slice (some ⟨h, 0, none⟩) n ch] w fun e w' =>
      e = .returned (.int .i64 0) ∧ RowAt w' g (mix m n xs ys ++ marks) ∧ RowAt w' h (mix m n ys xs ++ marks) ∧ Kept (fun k => k = g ∨ k = h) w w' := by
  refine (trade_any m hm g h n cg ch (xs ++ marks) (ys ++ marks) hgh (by simp; omega) (by simp; omega) (bytes_marks bx) (bytes_marks bY) (by unfold maxLen; omega) w hg hh).mono ?_
  rintro e w' ⟨he, hr, hr', hk⟩
  rw [mix_marks m n xs _ hx, mix_more m n xs ys marks (by omega)] at hr
  rw [mix_marks m n ys _ hy, mix_more m n ys xs marks (by omega)] at hr'
  exact ⟨he, hr, hr', hk⟩
end Go.Proofs.Ytldfbbgboelngab
