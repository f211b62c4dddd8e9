/-
  DERIVED. GIVEN WITH THE SEED: THE CARDS: each row of YtmgkjldjeomcmaaDoorRows.lean that lists a variable, with what it lists TIED to the program's text (the seventh form; the later family's looks); each row that meets fmt, with fmt's text TOLD by the authors' own Lean function (tested against real Go, not proved from fmt's source: count such statements apart). THE CARD IS WHAT COUNTS. Prove the row's statement (the work); the ties are given (YtmgkjldjeomcmaaDoorTie.lean); close each card by the builder's one call (the guide's Derived/Test/ToyasCard.lean, 'card_holds'). Laid BY PROGRAM, IN A SANDBOX (cutbox-door.mjs). By AI agents, Wed Nov 11 2026. No macro, syntax, notation, axiom, sorry.
-/
import Derived.Test.YtmgkjldjeomcmaaDoorRows
import GoSem.ClaimSeven
namespace Go.Proofs.YtmgkjldjeomcmaaDoor
namespace Rows

/-- THE TIED CARD OF 'trystlaw20.CodecSizes'. -/
def codecSizesCard : Claim7 := { stood := { row := codecSizesRow, standIns := [], harness := (true, "765a1506001b11bd997965e9fb7f06294fe239bb07d08c0039c8d696aeb37314"), looks := true }, kinds := [], alts := [], laidByText := true, laidKinds := [.handle], laidTests := true, laidLooks := .later }
def CodecSizesCardSaid : Prop := Claim7.holds Tryd.pinned (.plain (OpenSpec.ofChange codecSizesSpec)) codecSizesCard

/-- THE TIED CARD OF 'trystlaw20.CodecTalks'. -/
def codecTalksCard : Claim7 := { stood := { row := codecTalksRow, standIns := [], harness := (true, "765a1506001b11bd997965e9fb7f06294fe239bb07d08c0039c8d696aeb37314"), looks := true }, kinds := [], alts := [], laidByText := true, laidKinds := [.handle], laidTests := true, laidLooks := .later }
def CodecTalksCardSaid : Prop := Claim7.holds Tryd.pinned (.plain (OpenSpec.ofChange codecTalksSpec)) codecTalksCard

/-- THE TIED CARD OF 'trystlaw20.CodecDials'. -/
def codecDialsCard : Claim7 := { stood := { row := codecDialsRow, standIns := [], harness := (true, "765a1506001b11bd997965e9fb7f06294fe239bb07d08c0039c8d696aeb37314"), looks := true }, kinds := [], alts := [], laidByText := true, laidKinds := [.handle], laidTests := true, laidLooks := .later }
def CodecDialsCardSaid : Prop := Claim7.holds Tryd.pinned (.plain (OpenSpec.ofChange codecDialsSpec)) codecDialsCard

/-- THE TIED CARD OF 'trystlaw20.CodecFrames'. -/
def codecFramesCard : Claim7 := { stood := { row := codecFramesRow, standIns := [], harness := (true, "765a1506001b11bd997965e9fb7f06294fe239bb07d08c0039c8d696aeb37314"), looks := true }, kinds := [], alts := [], laidByText := true, laidKinds := [.handle], laidTests := true, laidLooks := .later }
def CodecFramesCardSaid : Prop := Claim7.holds Tryd.pinned (.plain (OpenSpec.ofChange codecFramesSpec)) codecFramesCard

/-- THE TIED CARD OF 'trystlaw20.CodecBack'. -/
def codecBackCard : Claim7 := { stood := { row := codecBackRow, standIns := [], harness := (true, "765a1506001b11bd997965e9fb7f06294fe239bb07d08c0039c8d696aeb37314"), looks := true }, kinds := [], alts := [], laidByText := true, laidKinds := [.handle], laidTests := true, laidLooks := .later }
def CodecBackCardSaid : Prop := Claim7.holds Tryd.pinned (.plain (OpenSpec.ofChange codecBackSpec)) codecBackCard

/-- THE SECOND FORM's CARD OF 'trystlaw20.CodecSizes'. -/
def codecSizesUptoCard : Claim7 := { stood := { row := codecSizesUptoRow, standIns := [], harness := (true, "765a1506001b11bd997965e9fb7f06294fe239bb07d08c0039c8d696aeb37314"), looks := true }, kinds := [], alts := [], laidByText := true, laidKinds := [.handle], laidTests := true, laidLooks := .later }
def CodecSizesUptoCardSaid : Prop := Claim7.holds Tryd.pinned (.plain (OpenSpec.upto codecSizesSpec)) codecSizesUptoCard

/-- THE SECOND FORM's CARD OF 'trystlaw20.CodecTalks'. -/
def codecTalksUptoCard : Claim7 := { stood := { row := codecTalksUptoRow, standIns := [], harness := (true, "765a1506001b11bd997965e9fb7f06294fe239bb07d08c0039c8d696aeb37314"), looks := true }, kinds := [], alts := [], laidByText := true, laidKinds := [.handle], laidTests := true, laidLooks := .later }
def CodecTalksUptoCardSaid : Prop := Claim7.holds Tryd.pinned (.plain (OpenSpec.upto codecTalksSpec)) codecTalksUptoCard

/-- THE SECOND FORM's CARD OF 'trystlaw20.CodecDials'. -/
def codecDialsUptoCard : Claim7 := { stood := { row := codecDialsUptoRow, standIns := [], harness := (true, "765a1506001b11bd997965e9fb7f06294fe239bb07d08c0039c8d696aeb37314"), looks := true }, kinds := [], alts := [], laidByText := true, laidKinds := [.handle], laidTests := true, laidLooks := .later }
def CodecDialsUptoCardSaid : Prop := Claim7.holds Tryd.pinned (.plain (OpenSpec.upto codecDialsSpec)) codecDialsUptoCard

/-- THE SECOND FORM's CARD OF 'trystlaw20.CodecFrames'. -/
def codecFramesUptoCard : Claim7 := { stood := { row := codecFramesUptoRow, standIns := [], harness := (true, "765a1506001b11bd997965e9fb7f06294fe239bb07d08c0039c8d696aeb37314"), looks := true }, kinds := [], alts := [], laidByText := true, laidKinds := [.handle], laidTests := true, laidLooks := .later }
def CodecFramesUptoCardSaid : Prop := Claim7.holds Tryd.pinned (.plain (OpenSpec.upto codecFramesSpec)) codecFramesUptoCard

/-- THE SECOND FORM's CARD OF 'trystlaw20.CodecBack'. -/
def codecBackUptoCard : Claim7 := { stood := { row := codecBackUptoRow, standIns := [], harness := (true, "765a1506001b11bd997965e9fb7f06294fe239bb07d08c0039c8d696aeb37314"), looks := true }, kinds := [], alts := [], laidByText := true, laidKinds := [.handle], laidTests := true, laidLooks := .later }
def CodecBackUptoCardSaid : Prop := Claim7.holds Tryd.pinned (.plain (OpenSpec.upto codecBackSpec)) codecBackUptoCard
end Rows
end Go.Proofs.YtmgkjldjeomcmaaDoor
