/-
  DERIVED. GIVEN WITH THE SEED: THE CARDS: each row of YtiimjhahblmggaaDoorRows.lean that lists a variable, with what it lists TIED to the program's text (the seventh form; the later family's looks); each row that meets fmt, with fmt's text TOLD by the authors' own Lean function (tested against real Go, not proved from fmt's source: count such statements apart). THE CARD IS WHAT COUNTS. Prove the row's statement (the work); the ties are given (YtiimjhahblmggaaDoorTie.lean); close each card by the builder's one call (the guide's Derived/Test/ToyasCard.lean, 'card_holds'). Laid BY PROGRAM, IN A SANDBOX (cutbox-door.mjs). By AI agents, Wed Nov 11 2026. No macro, syntax, notation, axiom, sorry.
-/
import Derived.Test.YtiimjhahblmggaaDoorRows
import GoSem.ClaimSeven
namespace Go.Proofs.YtiimjhahblmggaaDoor
namespace Rows

/-- THE TIED CARD OF 'trystlaw04.DeriveSums'. -/
def deriveSumsCard : Claim7 := { stood := { row := deriveSumsRow, standIns := [], harness := (true, "90b802d79507dd247482839713eb94781fe589addd6c2687e55558238cee9615"), looks := false }, kinds := [], alts := [], laidByText := true, laidKinds := [.data], laidTests := true, laidLooks := .later }
def DeriveSumsCardSaid : Prop := Claim7.holds Tryd.pinned (.plain (OpenSpec.ofChange deriveSumsSpec)) deriveSumsCard

/-- THE TIED CARD OF 'trystlaw04.DeriveWrites'. -/
def deriveWritesCard : Claim7 := { stood := { row := deriveWritesRow, standIns := [], harness := (true, "90b802d79507dd247482839713eb94781fe589addd6c2687e55558238cee9615"), looks := false }, kinds := [], alts := [], laidByText := true, laidKinds := [.data], laidTests := true, laidLooks := .later }
def DeriveWritesCardSaid : Prop := Claim7.holds Tryd.pinned (.plain (OpenSpec.ofChange deriveWritesSpec)) deriveWritesCard

/-- THE TIED CARD OF 'trystlaw04.DeriveExpands'. -/
def deriveExpandsCard : Claim7 := { stood := { row := deriveExpandsRow, standIns := [], harness := (true, "90b802d79507dd247482839713eb94781fe589addd6c2687e55558238cee9615"), looks := false }, kinds := [], alts := [], laidByText := true, laidKinds := [.data], laidTests := true, laidLooks := .later }
def DeriveExpandsCardSaid : Prop := Claim7.holds Tryd.pinned (.plain (OpenSpec.ofChange deriveExpandsSpec)) deriveExpandsCard

/-- THE TIED CARD OF 'trystlaw04.DeriveKeys'. -/
def deriveKeysCard : Claim7 := { stood := { row := deriveKeysRow, standIns := [], harness := (true, "90b802d79507dd247482839713eb94781fe589addd6c2687e55558238cee9615"), looks := false }, kinds := [], alts := [], laidByText := true, laidKinds := [.data], laidTests := true, laidLooks := .later }
def DeriveKeysCardSaid : Prop := Claim7.holds Tryd.pinned (.plain (OpenSpec.ofChange deriveKeysSpec)) deriveKeysCard

/-- THE SECOND FORM's CARD OF 'trystlaw04.DeriveSums'. -/
def deriveSumsUptoCard : Claim7 := { stood := { row := deriveSumsUptoRow, standIns := [], harness := (true, "90b802d79507dd247482839713eb94781fe589addd6c2687e55558238cee9615"), looks := false }, kinds := [], alts := [], laidByText := true, laidKinds := [.data], laidTests := true, laidLooks := .later }
def DeriveSumsUptoCardSaid : Prop := Claim7.holds Tryd.pinned (.plain (OpenSpec.upto deriveSumsSpec)) deriveSumsUptoCard

/-- THE SECOND FORM's CARD OF 'trystlaw04.DeriveWrites'. -/
def deriveWritesUptoCard : Claim7 := { stood := { row := deriveWritesUptoRow, standIns := [], harness := (true, "90b802d79507dd247482839713eb94781fe589addd6c2687e55558238cee9615"), looks := false }, kinds := [], alts := [], laidByText := true, laidKinds := [.data], laidTests := true, laidLooks := .later }
def DeriveWritesUptoCardSaid : Prop := Claim7.holds Tryd.pinned (.plain (OpenSpec.upto deriveWritesSpec)) deriveWritesUptoCard

/-- THE SECOND FORM's CARD OF 'trystlaw04.DeriveExpands'. -/
def deriveExpandsUptoCard : Claim7 := { stood := { row := deriveExpandsUptoRow, standIns := [], harness := (true, "90b802d79507dd247482839713eb94781fe589addd6c2687e55558238cee9615"), looks := false }, kinds := [], alts := [], laidByText := true, laidKinds := [.data], laidTests := true, laidLooks := .later }
def DeriveExpandsUptoCardSaid : Prop := Claim7.holds Tryd.pinned (.plain (OpenSpec.upto deriveExpandsSpec)) deriveExpandsUptoCard

/-- THE SECOND FORM's CARD OF 'trystlaw04.DeriveKeys'. -/
def deriveKeysUptoCard : Claim7 := { stood := { row := deriveKeysUptoRow, standIns := [], harness := (true, "90b802d79507dd247482839713eb94781fe589addd6c2687e55558238cee9615"), looks := false }, kinds := [], alts := [], laidByText := true, laidKinds := [.data], laidTests := true, laidLooks := .later }
def DeriveKeysUptoCardSaid : Prop := Claim7.holds Tryd.pinned (.plain (OpenSpec.upto deriveKeysSpec)) deriveKeysUptoCard
end Rows
end Go.Proofs.YtiimjhahblmggaaDoor
