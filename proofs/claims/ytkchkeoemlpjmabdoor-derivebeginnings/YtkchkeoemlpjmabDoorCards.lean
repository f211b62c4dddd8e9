/-
  DERIVED. GIVEN WITH THE SEED: THE CARDS: each row of YtkchkeoemlpjmabDoorRows.lean that lists a variable, with what it lists TIED to the program's text (the seventh form; the later family's looks); each row that meets fmt, with fmt's text TOLD by the authors' own Lean function (tested against real Go, not proved from fmt's source: count such statements apart). THE CARD IS WHAT COUNTS. Prove the row's statement (the work); the ties are given (YtkchkeoemlpjmabDoorTie.lean); close each card by the builder's one call (the guide's Derived/Test/ToyasCard.lean, 'card_holds'). Laid BY PROGRAM, IN A SANDBOX (cutbox-door.mjs). By AI agents, Wed Nov 11 2026. No macro, syntax, notation, axiom, sorry.
-/
import Derived.Test.YtkchkeoemlpjmabDoorRows
import GoSem.ClaimSeven
namespace Go.Proofs.YtkchkeoemlpjmabDoor
namespace Rows

/-- THE TIED CARD OF 'trystlaw04.DerivePieces'. -/
def derivePiecesCard : Claim7 := { stood := { row := derivePiecesRow, standIns := [], harness := (true, "744218c54e02172c2f64486374c4adeb592fa4ab868737fe19ea8a17cb1b75d0"), looks := true }, kinds := [], alts := [], laidByText := true, laidKinds := [.data], laidTests := true, laidLooks := .later }
def DerivePiecesCardSaid : Prop := Claim7.holds Tryd.pinned (.plain (OpenSpec.ofChange derivePiecesSpec)) derivePiecesCard

/-- THE TIED CARD OF 'trystlaw04.DeriveFrames'. -/
def deriveFramesCard : Claim7 := { stood := { row := deriveFramesRow, standIns := [], harness := (true, "744218c54e02172c2f64486374c4adeb592fa4ab868737fe19ea8a17cb1b75d0"), looks := true }, kinds := [], alts := [], laidByText := true, laidKinds := [.data], laidTests := true, laidLooks := .later }
def DeriveFramesCardSaid : Prop := Claim7.holds Tryd.pinned (.plain (OpenSpec.ofChange deriveFramesSpec)) deriveFramesCard

/-- THE TIED CARD OF 'trystlaw04.DeriveBeginnings'. -/
def deriveBeginningsCard : Claim7 := { stood := { row := deriveBeginningsRow, standIns := [], harness := (true, "744218c54e02172c2f64486374c4adeb592fa4ab868737fe19ea8a17cb1b75d0"), looks := true }, kinds := [], alts := [], laidByText := true, laidKinds := [.data], laidTests := true, laidLooks := .later }
def DeriveBeginningsCardSaid : Prop := Claim7.holds Tryd.pinned (.plain (OpenSpec.ofChange deriveBeginningsSpec)) deriveBeginningsCard

/-- THE TIED CARD OF 'trystlaw04.DeriveKnown'. -/
def deriveKnownCard : Claim7 := { stood := { row := deriveKnownRow, standIns := [], harness := (true, "744218c54e02172c2f64486374c4adeb592fa4ab868737fe19ea8a17cb1b75d0"), looks := true }, kinds := [], alts := [], laidByText := true, laidKinds := [.data], laidTests := true, laidLooks := .later }
def DeriveKnownCardSaid : Prop := Claim7.holds Tryd.pinned (.plain (OpenSpec.ofChange deriveKnownSpec)) deriveKnownCard

/-- THE SECOND FORM's CARD OF 'trystlaw04.DerivePieces'. -/
def derivePiecesUptoCard : Claim7 := { stood := { row := derivePiecesUptoRow, standIns := [], harness := (true, "744218c54e02172c2f64486374c4adeb592fa4ab868737fe19ea8a17cb1b75d0"), looks := true }, kinds := [], alts := [], laidByText := true, laidKinds := [.data], laidTests := true, laidLooks := .later }
def DerivePiecesUptoCardSaid : Prop := Claim7.holds Tryd.pinned (.plain (OpenSpec.upto derivePiecesSpec)) derivePiecesUptoCard

/-- THE SECOND FORM's CARD OF 'trystlaw04.DeriveFrames'. -/
def deriveFramesUptoCard : Claim7 := { stood := { row := deriveFramesUptoRow, standIns := [], harness := (true, "744218c54e02172c2f64486374c4adeb592fa4ab868737fe19ea8a17cb1b75d0"), looks := true }, kinds := [], alts := [], laidByText := true, laidKinds := [.data], laidTests := true, laidLooks := .later }
def DeriveFramesUptoCardSaid : Prop := Claim7.holds Tryd.pinned (.plain (OpenSpec.upto deriveFramesSpec)) deriveFramesUptoCard

/-- THE SECOND FORM's CARD OF 'trystlaw04.DeriveBeginnings'. -/
def deriveBeginningsUptoCard : Claim7 := { stood := { row := deriveBeginningsUptoRow, standIns := [], harness := (true, "744218c54e02172c2f64486374c4adeb592fa4ab868737fe19ea8a17cb1b75d0"), looks := true }, kinds := [], alts := [], laidByText := true, laidKinds := [.data], laidTests := true, laidLooks := .later }
def DeriveBeginningsUptoCardSaid : Prop := Claim7.holds Tryd.pinned (.plain (OpenSpec.upto deriveBeginningsSpec)) deriveBeginningsUptoCard

/-- THE SECOND FORM's CARD OF 'trystlaw04.DeriveKnown'. -/
def deriveKnownUptoCard : Claim7 := { stood := { row := deriveKnownUptoRow, standIns := [], harness := (true, "744218c54e02172c2f64486374c4adeb592fa4ab868737fe19ea8a17cb1b75d0"), looks := true }, kinds := [], alts := [], laidByText := true, laidKinds := [.data], laidTests := true, laidLooks := .later }
def DeriveKnownUptoCardSaid : Prop := Claim7.holds Tryd.pinned (.plain (OpenSpec.upto deriveKnownSpec)) deriveKnownUptoCard
end Rows
end Go.Proofs.YtkchkeoemlpjmabDoor
