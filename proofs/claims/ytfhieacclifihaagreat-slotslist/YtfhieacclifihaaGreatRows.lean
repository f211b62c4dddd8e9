/-
  No cell of these rows narrows 'for every input' (looked for: loops, veiled, ifaces, maps, wideKeys, modest, calm, conditions, laid).
  DERIVED. THE GIVEN ROWS OF THIS SEAT. 4 by the template 'for every input the law returns true; each argument reads behind the call as it read before'; 0 by the template 'total and deterministic' (their statements: YtfhieacclifihaaGreatTotals.lean).
  GIVEN WITH THE SEED: the statements are not yours to turn. If you find one false, say at which input.
  Laid BY PROGRAM, IN A SANDBOX (cutbox-rows.mjs): the forced cells as the released guide's own fill.sh prints them over the translation 368140ed8a246c16… (all of the seat's roots in one cut). By AI agents, Wed Nov 11 2026. No macro, syntax, notation, axiom, sorry.
-/
import Derived.Test.YtfhieacclifihaaGreatChecked
import GoSem.Claim
import GoSem.ClaimJoined
import GoSem.ClaimMapViews
import Derived.JoinedTies
import Derived.KernelRfl
namespace Go.Proofs.YtfhieacclifihaaGreat
/- THE CELL 'sum', in the pinned program and in every row, IS THE sha256 OF THE DUMP (.gsa) THAT YtfhieacclifihaaGreatProg.lean LOADS. Nothing in Lean hashes anything: it is a label: what it is worth is what the hold of that sum in a sandbox is worth. -/
noncomputable def Tryz.pinned : Pinned := { name := "ytfhieacclifihaagreat", sum := "368140ed8a246c16868b57c1323dcc1252129457c030c73acc62bd2667a9581e", checked := Tryz.checked }
namespace Rows
def none {H : Type} : Left H := { results := [], args := [] }

/-- 'trystlaw15.SlotsFits': WHATEVER THE INPUT: true; the input reads as it did. -/
def slotsFitsSpec : ChangeSpec := { name := "slotsFits", fn := fun _ => fun
  | [d] => { results := [.lit (.bool true)], args := [d] }
  | _ => none }
def slotsFitsRow : OpenClaim := { program := "ytfhieacclifihaagreat", sum := "368140ed8a246c16868b57c1323dcc1252129457c030c73acc62bd2667a9581e", func := "tryst/trystlaw15.SlotsFits", spec := "slotsFits", inPlace := ["math/bits.Add64", "math/bits.Sub64", "internal/reflectlite.TypeOf"], unfollowed := true, recurses := true, plainKeys := false, apart := false }
def SlotsFitsSaid : Prop := slotsFitsRow.holds Tryz.pinned (OpenSpec.ofChange slotsFitsSpec)

/-- ITS FALSE NEIGHBOUR: 'it returns false'. Refute it at one input. -/
def slotsFitsWrong : ChangeSpec := { name := "slotsFits", fn := fun _ => fun
  | [d] => { results := [.lit (.bool false)], args := [d] }
  | _ => none }
def SlotsFitsWrongFalsely : Prop := slotsFitsRow.holds Tryz.pinned (OpenSpec.ofChange slotsFitsWrong)

/-- 'trystlaw15.SlotsList': WHATEVER THE INPUT: true; the input reads as it did. -/
def slotsListSpec : ChangeSpec := { name := "slotsList", fn := fun _ => fun
  | [d] => { results := [.lit (.bool true)], args := [d] }
  | _ => none }
def slotsListRow : OpenClaim := { program := "ytfhieacclifihaagreat", sum := "368140ed8a246c16868b57c1323dcc1252129457c030c73acc62bd2667a9581e", func := "tryst/trystlaw15.SlotsList", spec := "slotsList", inPlace := ["math/bits.Add64", "math/bits.Sub64", "internal/reflectlite.TypeOf"], unfollowed := true, recurses := true, plainKeys := false, apart := false }
def SlotsListSaid : Prop := slotsListRow.holds Tryz.pinned (OpenSpec.ofChange slotsListSpec)

/-- ITS FALSE NEIGHBOUR: 'it returns false'. Refute it at one input. -/
def slotsListWrong : ChangeSpec := { name := "slotsList", fn := fun _ => fun
  | [d] => { results := [.lit (.bool false)], args := [d] }
  | _ => none }
def SlotsListWrongFalsely : Prop := slotsListRow.holds Tryz.pinned (OpenSpec.ofChange slotsListWrong)

/-- 'trystlaw15.SlotsBlind': WHATEVER THE INPUT: true; the input reads as it did. -/
def slotsBlindSpec : ChangeSpec := { name := "slotsBlind", fn := fun _ => fun
  | [d1, d2, d3] => { results := [.lit (.bool true)], args := [d1, d2, d3] }
  | _ => none }
def slotsBlindRow : OpenClaim := { program := "ytfhieacclifihaagreat", sum := "368140ed8a246c16868b57c1323dcc1252129457c030c73acc62bd2667a9581e", func := "tryst/trystlaw15.SlotsBlind", spec := "slotsBlind", inPlace := ["math/bits.Add64", "math/bits.Sub64", "internal/reflectlite.TypeOf"], unfollowed := true, recurses := true, plainKeys := false, apart := false }
def SlotsBlindSaid : Prop := slotsBlindRow.holds Tryz.pinned (OpenSpec.ofChange slotsBlindSpec)

/-- ITS FALSE NEIGHBOUR: 'it returns false'. Refute it at one input. -/
def slotsBlindWrong : ChangeSpec := { name := "slotsBlind", fn := fun _ => fun
  | [d1, d2, d3] => { results := [.lit (.bool false)], args := [d1, d2, d3] }
  | _ => none }
def SlotsBlindWrongFalsely : Prop := slotsBlindRow.holds Tryz.pinned (OpenSpec.ofChange slotsBlindWrong)

/-- 'trysttop.TopPages': WHATEVER THE INPUT: true; the input reads as it did. -/
def topPagesSpec : ChangeSpec := { name := "topPages", fn := fun _ => fun
  | [d1, d2, d3] => { results := [.lit (.bool true)], args := [d1, d2, d3] }
  | _ => none }
def topPagesRow : OpenClaim := { program := "ytfhieacclifihaagreat", sum := "368140ed8a246c16868b57c1323dcc1252129457c030c73acc62bd2667a9581e", func := "tryst/trysttop.TopPages", spec := "topPages", inPlace := ["math/bits.Add64", "math/bits.Sub64", "internal/reflectlite.TypeOf"], unfollowed := true, recurses := true, plainKeys := false, apart := false }
def TopPagesSaid : Prop := topPagesRow.holds Tryz.pinned (OpenSpec.ofChange topPagesSpec)

/-- ITS FALSE NEIGHBOUR: 'it returns false'. Refute it at one input. -/
def topPagesWrong : ChangeSpec := { name := "topPages", fn := fun _ => fun
  | [d1, d2, d3] => { results := [.lit (.bool false)], args := [d1, d2, d3] }
  | _ => none }
def TopPagesWrongFalsely : Prop := topPagesRow.holds Tryz.pinned (OpenSpec.ofChange topPagesWrong)

/- THE SECOND FORM. 'bulk': how many values and letters a reading holds, each counted each time it is reached (what is shared counts as often as it is met; a slice's spare places count too). A statement '..UptoSaid' is the law's where the arguments, and the package variables that the reading takes, are together of bulk at most 1048576: NARROWER than '..Said'. Prove '..Said' where nothing that the law and all that it calls make is longer than what came in: it says more and counts as full. Else prove '..UptoSaid'. A law counts once. -/
mutual
def uptoBulk {H : Type} : DataW H → Nat
  | .lit (.string bytes) => bytes.length + 1
  | .lit _ => 1
  | .nil => 1
  | .ptr d => uptoBulk d + 1
  | .slice elems spare => uptoBulkAll elems + uptoBulkAll spare + 1
  | .agg parts => uptoBulkAll parts + 1
  | .iface _ d => uptoBulk d + 1
  | .map entries => uptoBulkEntries entries + 1
  | .held _ => 1
def uptoBulkAll {H : Type} : List (DataW H) → Nat
  | [] => 0
  | d :: r => uptoBulk d + uptoBulkAll r
def uptoBulkEntries {H : Type} : List (Lit × DataW H) → Nat
  | [] => 0
  | x :: r => uptoBulkEntry x + uptoBulkEntries r
def uptoBulkEntry {H : Type} : Lit × DataW H → Nat
  | (.string bytes, d) => bytes.length + uptoBulk d + 1
  | (_, d) => uptoBulk d + 1
 end
def uptoSmall : (H : Type) → List (DataW H) → Bool := fun _ ds => decide (uptoBulkAll ds ≤ 1048576)
def OpenSpec.upto (s : _root_.Go.ChangeSpec) : _root_.Go.OpenSpec := { _root_.Go.OpenSpec.ofChange s with cond := some uptoSmall }

/-- 'trystlaw15.SlotsFits', WHERE WHAT IT READS IS OF BULK AT MOST 1048576: true; the input reads as it did. -/
def slotsFitsUptoRow : OpenClaim := { program := "ytfhieacclifihaagreat", sum := "368140ed8a246c16868b57c1323dcc1252129457c030c73acc62bd2667a9581e", func := "tryst/trystlaw15.SlotsFits", spec := "slotsFits", inPlace := ["math/bits.Add64", "math/bits.Sub64", "internal/reflectlite.TypeOf"], unfollowed := true, recurses := true, plainKeys := false, apart := false, narrowed := true }
def SlotsFitsUptoSaid : Prop := slotsFitsUptoRow.holds Tryz.pinned (OpenSpec.upto slotsFitsSpec)

/-- 'trystlaw15.SlotsList', WHERE WHAT IT READS IS OF BULK AT MOST 1048576: true; the input reads as it did. -/
def slotsListUptoRow : OpenClaim := { program := "ytfhieacclifihaagreat", sum := "368140ed8a246c16868b57c1323dcc1252129457c030c73acc62bd2667a9581e", func := "tryst/trystlaw15.SlotsList", spec := "slotsList", inPlace := ["math/bits.Add64", "math/bits.Sub64", "internal/reflectlite.TypeOf"], unfollowed := true, recurses := true, plainKeys := false, apart := false, narrowed := true }
def SlotsListUptoSaid : Prop := slotsListUptoRow.holds Tryz.pinned (OpenSpec.upto slotsListSpec)

/-- 'trystlaw15.SlotsBlind', WHERE WHAT IT READS IS OF BULK AT MOST 1048576: true; the input reads as it did. -/
def slotsBlindUptoRow : OpenClaim := { program := "ytfhieacclifihaagreat", sum := "368140ed8a246c16868b57c1323dcc1252129457c030c73acc62bd2667a9581e", func := "tryst/trystlaw15.SlotsBlind", spec := "slotsBlind", inPlace := ["math/bits.Add64", "math/bits.Sub64", "internal/reflectlite.TypeOf"], unfollowed := true, recurses := true, plainKeys := false, apart := false, narrowed := true }
def SlotsBlindUptoSaid : Prop := slotsBlindUptoRow.holds Tryz.pinned (OpenSpec.upto slotsBlindSpec)

/-- 'trysttop.TopPages', WHERE WHAT IT READS IS OF BULK AT MOST 1048576: true; the input reads as it did. -/
def topPagesUptoRow : OpenClaim := { program := "ytfhieacclifihaagreat", sum := "368140ed8a246c16868b57c1323dcc1252129457c030c73acc62bd2667a9581e", func := "tryst/trysttop.TopPages", spec := "topPages", inPlace := ["math/bits.Add64", "math/bits.Sub64", "internal/reflectlite.TypeOf"], unfollowed := true, recurses := true, plainKeys := false, apart := false, narrowed := true }
def TopPagesUptoSaid : Prop := topPagesUptoRow.holds Tryz.pinned (OpenSpec.upto topPagesSpec)

end Rows
end Go.Proofs.YtfhieacclifihaaGreat
