/-
  DERIVED. GIVEN WITH THE SEED: THE CARDS: each row of YthlbjkfjkggdoaaGreatDoorRows.lean that lists a variable, with what it lists TIED to the program's text (the seventh form; the later family's looks); each row that meets fmt, with fmt's text TOLD by the authors' own Lean function (tested against real Go, not proved from fmt's source: count such statements apart). THE CARD IS WHAT COUNTS. Prove the row's statement (the work); the ties are given (YthlbjkfjkggdoaaGreatDoorTie.lean); close each card by the builder's one call (the guide's Derived/Test/ToyasCard.lean, 'card_holds'). Laid BY PROGRAM, IN A SANDBOX (cutbox-door.mjs). By AI agents, Wed Nov 11 2026. No macro, syntax, notation, axiom, sorry.
-/
import Derived.Test.YthlbjkfjkggdoaaGreatDoorRows
import GoSem.ClaimSeven
namespace Go.Proofs.YthlbjkfjkggdoaaGreatDoor
namespace Rows

/-- THE TIED CARD OF 'trystlaw10.OnionSchedules'. -/
def onionSchedulesCard : Claim7 := { stood := { row := onionSchedulesRow, standIns := [], harness := (true, "84c59d0ae09fa4278aedaa9cc4486920b81cb3f5df38441b93cba0bb186d6ec1"), looks := false }, kinds := [], alts := [], goes := true, laidByText := true, laidKinds := [.data], laidTests := true, laidLooks := .later }
def OnionSchedulesCardSaid : Prop := Claim7.holds Tryz.pinned (.plain (OpenSpec.ofChange onionSchedulesSpec)) onionSchedulesCard

/-- THE TIED CARD OF 'trystlaw10.OnionWraps'. -/
def onionWrapsCard : Claim7 := { stood := { row := onionWrapsRow, standIns := [], harness := (true, "84c59d0ae09fa4278aedaa9cc4486920b81cb3f5df38441b93cba0bb186d6ec1"), looks := false }, kinds := [], alts := [], goes := true, laidByText := true, laidKinds := [.data], laidTests := true, laidLooks := .later }
def OnionWrapsCardSaid : Prop := Claim7.holds Tryz.pinned (.plain (OpenSpec.ofChange onionWrapsSpec)) onionWrapsCard

/-- THE TIED CARD OF 'trystlaw10.OnionPeels'. -/
def onionPeelsCard : Claim7 := { stood := { row := onionPeelsRow, standIns := [], harness := (true, "84c59d0ae09fa4278aedaa9cc4486920b81cb3f5df38441b93cba0bb186d6ec1"), looks := false }, kinds := [], alts := [], goes := true, laidByText := true, laidKinds := [.data], laidTests := true, laidLooks := .later }
def OnionPeelsCardSaid : Prop := Claim7.holds Tryz.pinned (.plain (OpenSpec.ofChange onionPeelsSpec)) onionPeelsCard

/-- THE TIED CARD OF 'trystlaw10.OnionReplies'. -/
def onionRepliesCard : Claim7 := { stood := { row := onionRepliesRow, standIns := [], harness := (true, "84c59d0ae09fa4278aedaa9cc4486920b81cb3f5df38441b93cba0bb186d6ec1"), looks := false }, kinds := [], alts := [], goes := true, laidByText := true, laidKinds := [.data], laidTests := true, laidLooks := .later }
def OnionRepliesCardSaid : Prop := Claim7.holds Tryz.pinned (.plain (OpenSpec.ofChange onionRepliesSpec)) onionRepliesCard

/-- THE TIED CARD OF 'trystlaw10.OnionBack'. -/
def onionBackCard : Claim7 := { stood := { row := onionBackRow, standIns := [], harness := (true, "84c59d0ae09fa4278aedaa9cc4486920b81cb3f5df38441b93cba0bb186d6ec1"), looks := false }, kinds := [], alts := [], goes := true, laidByText := true, laidKinds := [.data], laidTests := true, laidLooks := .later }
def OnionBackCardSaid : Prop := Claim7.holds Tryz.pinned (.plain (OpenSpec.ofChange onionBackSpec)) onionBackCard

/-- THE TIED CARD OF 'trystlaw10.OnionWorkers'. -/
def onionWorkersCard : Claim7 := { stood := { row := onionWorkersRow, standIns := [], harness := (true, "84c59d0ae09fa4278aedaa9cc4486920b81cb3f5df38441b93cba0bb186d6ec1"), looks := false }, kinds := [], alts := [], goes := true, laidByText := true, laidKinds := [.data], laidTests := true, laidLooks := .later }
def OnionWorkersCardSaid : Prop := Claim7.holds Tryz.pinned (.plain (OpenSpec.ofChange onionWorkersSpec)) onionWorkersCard

/-- THE TIED CARD OF 'trystlaw10.OnionKnown'. -/
def onionKnownCard : Claim7 := { stood := { row := onionKnownRow, standIns := [], harness := (true, "84c59d0ae09fa4278aedaa9cc4486920b81cb3f5df38441b93cba0bb186d6ec1"), looks := false }, kinds := [], alts := [], goes := true, laidByText := true, laidKinds := [.data], laidTests := true, laidLooks := .later }
def OnionKnownCardSaid : Prop := Claim7.holds Tryz.pinned (.plain (OpenSpec.ofChange onionKnownSpec)) onionKnownCard

/-- THE TIED CARD OF 'trysttop.TopOnion'. -/
def topOnionCard : Claim7 := { stood := { row := topOnionRow, standIns := [], harness := (true, "84c59d0ae09fa4278aedaa9cc4486920b81cb3f5df38441b93cba0bb186d6ec1"), looks := false }, kinds := [], alts := [], goes := true, laidByText := true, laidKinds := [.data], laidTests := true, laidLooks := .later }
def TopOnionCardSaid : Prop := Claim7.holds Tryz.pinned (.plain (OpenSpec.ofChange topOnionSpec)) topOnionCard

/-- THE SECOND FORM's CARD OF 'trystlaw10.OnionSchedules'. -/
def onionSchedulesUptoCard : Claim7 := { stood := { row := onionSchedulesUptoRow, standIns := [], harness := (true, "84c59d0ae09fa4278aedaa9cc4486920b81cb3f5df38441b93cba0bb186d6ec1"), looks := false }, kinds := [], alts := [], goes := true, laidByText := true, laidKinds := [.data], laidTests := true, laidLooks := .later }
def OnionSchedulesUptoCardSaid : Prop := Claim7.holds Tryz.pinned (.plain (OpenSpec.upto onionSchedulesSpec)) onionSchedulesUptoCard

/-- THE SECOND FORM's CARD OF 'trystlaw10.OnionWraps'. -/
def onionWrapsUptoCard : Claim7 := { stood := { row := onionWrapsUptoRow, standIns := [], harness := (true, "84c59d0ae09fa4278aedaa9cc4486920b81cb3f5df38441b93cba0bb186d6ec1"), looks := false }, kinds := [], alts := [], goes := true, laidByText := true, laidKinds := [.data], laidTests := true, laidLooks := .later }
def OnionWrapsUptoCardSaid : Prop := Claim7.holds Tryz.pinned (.plain (OpenSpec.upto onionWrapsSpec)) onionWrapsUptoCard

/-- THE SECOND FORM's CARD OF 'trystlaw10.OnionPeels'. -/
def onionPeelsUptoCard : Claim7 := { stood := { row := onionPeelsUptoRow, standIns := [], harness := (true, "84c59d0ae09fa4278aedaa9cc4486920b81cb3f5df38441b93cba0bb186d6ec1"), looks := false }, kinds := [], alts := [], goes := true, laidByText := true, laidKinds := [.data], laidTests := true, laidLooks := .later }
def OnionPeelsUptoCardSaid : Prop := Claim7.holds Tryz.pinned (.plain (OpenSpec.upto onionPeelsSpec)) onionPeelsUptoCard

/-- THE SECOND FORM's CARD OF 'trystlaw10.OnionReplies'. -/
def onionRepliesUptoCard : Claim7 := { stood := { row := onionRepliesUptoRow, standIns := [], harness := (true, "84c59d0ae09fa4278aedaa9cc4486920b81cb3f5df38441b93cba0bb186d6ec1"), looks := false }, kinds := [], alts := [], goes := true, laidByText := true, laidKinds := [.data], laidTests := true, laidLooks := .later }
def OnionRepliesUptoCardSaid : Prop := Claim7.holds Tryz.pinned (.plain (OpenSpec.upto onionRepliesSpec)) onionRepliesUptoCard

/-- THE SECOND FORM's CARD OF 'trystlaw10.OnionBack'. -/
def onionBackUptoCard : Claim7 := { stood := { row := onionBackUptoRow, standIns := [], harness := (true, "84c59d0ae09fa4278aedaa9cc4486920b81cb3f5df38441b93cba0bb186d6ec1"), looks := false }, kinds := [], alts := [], goes := true, laidByText := true, laidKinds := [.data], laidTests := true, laidLooks := .later }
def OnionBackUptoCardSaid : Prop := Claim7.holds Tryz.pinned (.plain (OpenSpec.upto onionBackSpec)) onionBackUptoCard

/-- THE SECOND FORM's CARD OF 'trystlaw10.OnionWorkers'. -/
def onionWorkersUptoCard : Claim7 := { stood := { row := onionWorkersUptoRow, standIns := [], harness := (true, "84c59d0ae09fa4278aedaa9cc4486920b81cb3f5df38441b93cba0bb186d6ec1"), looks := false }, kinds := [], alts := [], goes := true, laidByText := true, laidKinds := [.data], laidTests := true, laidLooks := .later }
def OnionWorkersUptoCardSaid : Prop := Claim7.holds Tryz.pinned (.plain (OpenSpec.upto onionWorkersSpec)) onionWorkersUptoCard

/-- THE SECOND FORM's CARD OF 'trystlaw10.OnionKnown'. -/
def onionKnownUptoCard : Claim7 := { stood := { row := onionKnownUptoRow, standIns := [], harness := (true, "84c59d0ae09fa4278aedaa9cc4486920b81cb3f5df38441b93cba0bb186d6ec1"), looks := false }, kinds := [], alts := [], goes := true, laidByText := true, laidKinds := [.data], laidTests := true, laidLooks := .later }
def OnionKnownUptoCardSaid : Prop := Claim7.holds Tryz.pinned (.plain (OpenSpec.upto onionKnownSpec)) onionKnownUptoCard

/-- THE SECOND FORM's CARD OF 'trysttop.TopOnion'. -/
def topOnionUptoCard : Claim7 := { stood := { row := topOnionUptoRow, standIns := [], harness := (true, "84c59d0ae09fa4278aedaa9cc4486920b81cb3f5df38441b93cba0bb186d6ec1"), looks := false }, kinds := [], alts := [], goes := true, laidByText := true, laidKinds := [.data], laidTests := true, laidLooks := .later }
def TopOnionUptoCardSaid : Prop := Claim7.holds Tryz.pinned (.plain (OpenSpec.upto topOnionSpec)) topOnionUptoCard
end Rows
end Go.Proofs.YthlbjkfjkggdoaaGreatDoor
