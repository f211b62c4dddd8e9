/- CopyBytes, as a value that is a slice of the bytes. -/
import Derived.Test.YtdnfkkndfdbefabTWorks
namespace Go.Proofs.Ytdnfkkndfdbefab
open Go.RowKit Go.Joins
set_option linter.unusedVariables false
set_option linter.unusedSimpArgs false

/-- A slice of these bytes, with room enough. -/
def isS (zs : List Int) (v : Value) (w : World) : Prop := ∃ vo n c, v = .slice vo n c ∧ Seen w vo n zs ∧ n ≤ c
theorem isS_later (zs : List Int) : ∀ v w w', Below w.heap.size w w' → isS zs v w → isS zs v w' := fun _ _ _ hb ⟨b, o, c, h1, h2, h3⟩ => ⟨b, o, c, h1, h2.later hb (Nat.le_refl _), h3⟩
theorem copyB_is (ao : Option Addr) (n c : Nat) (zs : List Int) (w : World) (hx : Seen w ao n zs) : Calls Try.prog 6 #[.slice ao n c] w fun e w' => ∃ v, e = .returned v ∧ isS zs v w' ∧ Below w.heap.size w w' := by
  refine (copyB_any ao n c zs w hx).mono ?_
  rintro e w' ⟨v, rfl, ho, hb⟩
  have hl := hx.len
  subst hl
  obtain ⟨vo, cap, rfl, hs, hc, _⟩ := own_data hx.bytes hx.top ho
  exact ⟨_, rfl, ⟨_, _, _, rfl, hs, hc⟩, hb⟩
end Go.Proofs.Ytdnfkkndfdbefab
