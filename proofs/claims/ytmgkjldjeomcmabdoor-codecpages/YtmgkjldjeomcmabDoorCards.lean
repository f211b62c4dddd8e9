/-
  DERIVED. GIVEN WITH THE SEED: THE CARDS: each row of YtmgkjldjeomcmabDoorRows.lean that lists a variable, with what it lists TIED to the program's text (the seventh form; the later family's looks); each row that meets fmt, with fmt's text TOLD by the authors' own Lean function (tested against real Go, not proved from fmt's source: count such statements apart). THE CARD IS WHAT COUNTS. Prove the row's statement (the work); the ties are given (YtmgkjldjeomcmabDoorTie.lean); close each card by the builder's one call (the guide's Derived/Test/ToyasCard.lean, 'card_holds'). Laid BY PROGRAM, IN A SANDBOX (cutbox-door.mjs). By AI agents, Wed Nov 11 2026. No macro, syntax, notation, axiom, sorry.
-/
import Derived.Test.YtmgkjldjeomcmabDoorRows
import GoSem.ClaimSeven
namespace Go.Proofs.YtmgkjldjeomcmabDoor
namespace Rows

/-- THE TIED CARD OF 'trystlaw20.CodecOnce'. -/
def codecOnceCard : Claim7 := { stood := { row := codecOnceRow, standIns := [], harness := (true, "56f910a18197cfb5fb2c686b867db715cc1ad65ff86ae1799b3f1473137d1731"), looks := true }, kinds := [], alts := [], laidByText := true, laidKinds := [.handle], laidTests := true, laidLooks := .later }
def CodecOnceCardSaid : Prop := Claim7.holds Tryd.pinned (.plain (OpenSpec.ofChange codecOnceSpec)) codecOnceCard

/-- THE TIED CARD OF 'trystlaw20.CodecFramed'. -/
def codecFramedCard : Claim7 := { stood := { row := codecFramedRow, standIns := [], harness := (true, "56f910a18197cfb5fb2c686b867db715cc1ad65ff86ae1799b3f1473137d1731"), looks := true }, kinds := [], alts := [], laidByText := true, laidKinds := [.handle], laidTests := true, laidLooks := .later }
def CodecFramedCardSaid : Prop := Claim7.holds Tryd.pinned (.plain (OpenSpec.ofChange codecFramedSpec)) codecFramedCard

/-- THE TIED CARD OF 'trystlaw20.CodecPages'. -/
def codecPagesCard : Claim7 := { stood := { row := codecPagesRow, standIns := [], harness := (true, "56f910a18197cfb5fb2c686b867db715cc1ad65ff86ae1799b3f1473137d1731"), looks := true }, kinds := [], alts := [], laidByText := true, laidKinds := [.handle], laidTests := true, laidLooks := .later }
def CodecPagesCardSaid : Prop := Claim7.holds Tryd.pinned (.plain (OpenSpec.ofChange codecPagesSpec)) codecPagesCard

/-- THE TIED CARD OF 'trystlaw20.CodecNames'. -/
def codecNamesCard : Claim7 := { stood := { row := codecNamesRow, standIns := [], harness := (true, "56f910a18197cfb5fb2c686b867db715cc1ad65ff86ae1799b3f1473137d1731"), looks := true }, kinds := [], alts := [], laidByText := true, laidKinds := [.handle], laidTests := true, laidLooks := .later }
def CodecNamesCardSaid : Prop := Claim7.holds Tryd.pinned (.plain (OpenSpec.ofChange codecNamesSpec)) codecNamesCard

/-- THE SECOND FORM's CARD OF 'trystlaw20.CodecOnce'. -/
def codecOnceUptoCard : Claim7 := { stood := { row := codecOnceUptoRow, standIns := [], harness := (true, "56f910a18197cfb5fb2c686b867db715cc1ad65ff86ae1799b3f1473137d1731"), looks := true }, kinds := [], alts := [], laidByText := true, laidKinds := [.handle], laidTests := true, laidLooks := .later }
def CodecOnceUptoCardSaid : Prop := Claim7.holds Tryd.pinned (.plain (OpenSpec.upto codecOnceSpec)) codecOnceUptoCard

/-- THE SECOND FORM's CARD OF 'trystlaw20.CodecFramed'. -/
def codecFramedUptoCard : Claim7 := { stood := { row := codecFramedUptoRow, standIns := [], harness := (true, "56f910a18197cfb5fb2c686b867db715cc1ad65ff86ae1799b3f1473137d1731"), looks := true }, kinds := [], alts := [], laidByText := true, laidKinds := [.handle], laidTests := true, laidLooks := .later }
def CodecFramedUptoCardSaid : Prop := Claim7.holds Tryd.pinned (.plain (OpenSpec.upto codecFramedSpec)) codecFramedUptoCard

/-- THE SECOND FORM's CARD OF 'trystlaw20.CodecPages'. -/
def codecPagesUptoCard : Claim7 := { stood := { row := codecPagesUptoRow, standIns := [], harness := (true, "56f910a18197cfb5fb2c686b867db715cc1ad65ff86ae1799b3f1473137d1731"), looks := true }, kinds := [], alts := [], laidByText := true, laidKinds := [.handle], laidTests := true, laidLooks := .later }
def CodecPagesUptoCardSaid : Prop := Claim7.holds Tryd.pinned (.plain (OpenSpec.upto codecPagesSpec)) codecPagesUptoCard

/-- THE SECOND FORM's CARD OF 'trystlaw20.CodecNames'. -/
def codecNamesUptoCard : Claim7 := { stood := { row := codecNamesUptoRow, standIns := [], harness := (true, "56f910a18197cfb5fb2c686b867db715cc1ad65ff86ae1799b3f1473137d1731"), looks := true }, kinds := [], alts := [], laidByText := true, laidKinds := [.handle], laidTests := true, laidLooks := .later }
def CodecNamesUptoCardSaid : Prop := Claim7.holds Tryd.pinned (.plain (OpenSpec.upto codecNamesSpec)) codecNamesUptoCard
end Rows
end Go.Proofs.YtmgkjldjeomcmabDoor
