/- Layer octet, what makes memory: Clone, copied, roomBehind, lent; and still, same. -/
import Derived.Test.YtnifolefhelmcaaONum
namespace Go.Proofs.Ytnifolefhelmcaa
open Go.RowKit
set_option linter.unusedVariables false
set_option linter.unusedSimpArgs false

theorem add_at (b o j : Nat) : (⟨b, o, none⟩ : Addr).add j = ⟨b, o + j, none⟩ := by
  unfold Addr.add
  split
  · next h => subst h; rfl
  · rfl
theorem seen_news {w : World} {ao : Option Addr} {n : Nat} {zs : List Int} (hx : Seen w ao n zs) {ad : Addr} (e : ao = some ad) :
    ∀ j u, (zs.map (Value.int .u8))[j]? = some u → w.cell? (ad.add j) = some u := by
  intro j u hj
  have hlt : j < n := by
    rcases Nat.lt_or_ge j n with h | h
    · exact h
    · rw [List.getElem?_eq_none (by have := hx.len; simp; omega)] at hj; cases hj
  obtain ⟨b, o, e', _, hc⟩ := hx.cells (by omega)
  rw [e] at e'
  cases e'
  rw [add_at, hc j hlt, ← hj, List.getElem?_map]
  have : j < zs.length := by have := hx.len; omega
  simp [List.getD, this]
theorem one_bytes (zs : List Int) : ∀ u ∈ zs.map (Value.int .u8), u.oneCell' = true := by
  intro u hu
  obtain ⟨z, _, rfl⟩ := List.mem_map.1 hu
  rfl
theorem seen_nil {w : World} {n : Nat} {zs : List Int} (hx : Seen w none n zs) : n = 0 ∧ zs = [] := by
  have h : n = 0 := by
    rcases Nat.eq_zero_or_pos n with h | h
    · exact h
    · obtain ⟨b, o, e, _⟩ := hx.cells h; cases e
  exact ⟨h, List.length_eq_zero_iff.1 (by rw [hx.len]; exact h)⟩
theorem below_grown {w w1 w2 : World} {v : Value} {n : Nat} {xs : List Value} (hb : Below w.heap.size w w1) (ho : w1.ownsRow w.heap.size 5 1 v n xs) (hg : w1.grownBy w2 v.ownBlock) : Below w.heap.size w w2 :=
  hb.grown hg hb.size (fun j hj => (ho.lt j hj).1)
theorem own_made (w : World) (c : Nat) (hc : c ≤ maxLen) (cs : Array Value) (hs : cs.size = c) : (w.alloc (.cells cs 5)).ownsRow w.heap.size 5 1 (.slice (some ⟨w.heap.size, 0, none⟩) 0 c) 0 [] :=
  World.ownsRow_made w _ c (Nat.le_refl _) hc (by rw [hs, Nat.mul_one])

end Go.Proofs.Ytnifolefhelmcaa
