/- Layer record, for the laws that lend a list: what stands. -/
import Derived.Test.YtabdjoljdefjdaaRcLaw
import Derived.Test.YtabdjoljdefjdaaRSpare
namespace Go.Proofs.Ytabdjoljdefjdaa
open Go.RowKit
set_option linter.unusedVariables false
set_option linter.unusedSimpArgs false

theorem bytes_setR {zs : List Int} (h : Bytes zs) (k : Nat) (z : Int) (hz : 0 ≤ z ∧ z < 256) : Bytes (zs.set k z) := fun y hy => by
  rcases List.mem_or_eq_of_mem_set hy with h1 | rfl
  · exact h y h1
  · exact hz
theorem xor8_bdR (x y : Int) (hx : 0 ≤ x ∧ x < 256) (hy : 0 ≤ y ∧ y < 256) : 0 ≤ bits .xor .u8 x y ∧ bits .xor .u8 x y < 256 := by
  have h1 : x.toNat ^^^ y.toNat < 2 ^ 8 := Nat.xor_lt_two_pow (by omega) (by omega)
  rw [u8_xor x y hx.1 hx.2 hy.1 hy.2]
  omega
/-- A list that was lent, in block g. -/
structure Ld (w W : World) (g : Nat) (us : List Int) : Prop where
  s : Blk W g 5 (u8s (spared us))
  bel : Below w.heap.size w W
  lt : w.heap.size ≤ g
theorem Ld.later {w W W' : World} {g : Nat} {us : List Int} (h : Ld w W g us) (l : Below W.heap.size W W') : Ld w W' g us := ⟨h.s.later l h.s.lt, below_chain h.bel l h.bel.size, h.lt⟩
theorem Ld.kept {S : Nat → Prop} {w W W' : World} {g : Nat} {us : List Int} (h : Ld w W g us) (k : Kept S W W') (hS : ∀ j, S j → w.heap.size ≤ j ∧ j ≠ g) : Ld w W' g us := ⟨h.s.kept k (fun e => (hS g e).2 rfl), below_kept h.bel k h.bel.size (fun j hj e => by have := (hS j e).1; omega), h.lt⟩
theorem Ld.drewN {w W : World} {g : Nat} {us : List Int} (h : Ld w W g us) (q : Nat) : Ld w (W.drewN q) g us := ⟨h.s, below_dn h.bel q, h.lt⟩
theorem Ld.seen {w W : World} {g n : Nat} {us : List Int} (h : Ld w W g us) (hl : us.length = n) (hb : Bytes us) (ht : n ≤ 140737488351232) : Seen W (some ⟨g, 0, none⟩) n us := by
  have := spared_big h.s hb (by omega)
  rwa [hl] at this
theorem Ld.set {w W : World} {g : Nat} {us : List Int} (h : Ld w W g us) (k : Nat) (z : Int) (hk : k < us.length) : Ld w (W.setCell ⟨g, k, none⟩ (.int .u8 z)) g (us.set k z) := by
  have K1 := (Kept.refl (fun y => y = g) W).setCell (p := ⟨g, k, none⟩) rfl (.int .u8 z)
  have t := h.s.set k (.int .u8 z)
  rw [u8s_set, spared_set us k z hk] at t
  exact ⟨t, below_kept h.bel K1 h.bel.size (fun j hj e => by have := h.lt; omega), h.lt⟩
end Go.Proofs.Ytabdjoljdefjdaa
