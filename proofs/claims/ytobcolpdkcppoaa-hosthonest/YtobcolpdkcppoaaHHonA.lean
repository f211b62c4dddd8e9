/- Layer host: HostHonest answers true. -/
import Derived.Test.YtobcolpdkcppoaaHHonW
namespace Go.Proofs.Ytobcolpdkcppoaa
open Go.RowKit
set_option linter.unusedVariables false

theorem hon_any (pages size : Int) (fv : Value) (so : Option Addr) (n sc : Nat) (ss : List RS) (w : World) (x : RsS w (.slice so n sc) ss) (hs : ∀ r ∈ ss, Seen w r.a r.s.z.length r.s.z ∧ Word r.s.v) (hn : n < 2932031007402) :
    Calls Try.prog 4 #[.agg (lifeC pages size fv (.slice so n sc)).toArray] w fun e w' => e = .returned (.bool true) ∧ Below w.heap.size w w' := by
  by_cases hf : fitsP pages size
  · obtain ⟨P, rfl⟩ : ∃ P : Nat, pages = P := ⟨pages.toNat, by have := hf.1; omega⟩
    obtain ⟨Z, rfl⟩ : ∃ Z : Nat, size = Z := ⟨size.toNat, by have := hf.2.2.1; omega⟩
    exact hon_good P Z fv so n sc ss w hf x hs hn
  · exact hon_bad pages size fv (.slice so n sc) w hf
end Go.Proofs.Ytobcolpdkcppoaa
