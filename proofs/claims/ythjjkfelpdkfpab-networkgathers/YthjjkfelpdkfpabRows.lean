/-
  No cell of these rows narrows 'for every input' (looked for: loops, veiled, ifaces, maps, wideKeys, modest, calm, conditions, laid).
  DERIVED. THE GIVEN ROWS OF THIS SEAT. 3 by the template 'for every input the law returns true; each argument reads behind the call as it read before'; 0 by the template 'total and deterministic' (their statements: YthjjkfelpdkfpabTotals.lean).
  GIVEN WITH THE SEED: the statements are not yours to turn. If you find one false, say at which input.
  Laid BY PROGRAM, IN A SANDBOX (cutbox-rows.mjs): the forced cells as the released guide's own fill.sh prints them over the translation 31381a90b85e3dbf… (all of the seat's roots in one cut). By AI agents, Wed Nov 11 2026. No macro, syntax, notation, axiom, sorry.
-/
import Derived.Test.YthjjkfelpdkfpabChecked
import GoSem.Claim
import GoSem.ClaimJoined
import GoSem.ClaimMapViews
import Derived.JoinedTies
import Derived.KernelRfl
namespace Go.Proofs.Ythjjkfelpdkfpab
/- THE CELL 'sum', in the pinned program and in every row, IS THE sha256 OF THE DUMP (.gsa) THAT YthjjkfelpdkfpabProg.lean LOADS. Nothing in Lean hashes anything: it is a label: what it is worth is what the hold of that sum in a sandbox is worth. -/
noncomputable def Try.pinned : Pinned := { name := "ythjjkfelpdkfpab", sum := "31381a90b85e3dbf5705a8f7cb4906554b096a4018b7a2f69cccdfd5a8139842", checked := Try.checked }
namespace Rows
def none {H : Type} : Left H := { results := [], args := [] }

/-- 'trystlaw16.NetworkGathers': WHATEVER THE INPUT: true; the input reads as it did. -/
def networkGathersSpec : ChangeSpec := { name := "networkGathers", fn := fun _ => fun
  | [d] => { results := [.lit (.bool true)], args := [d] }
  | _ => none }
def networkGathersRow : OpenClaim := { program := "ythjjkfelpdkfpab", sum := "31381a90b85e3dbf5705a8f7cb4906554b096a4018b7a2f69cccdfd5a8139842", func := "tryst/trystlaw16.NetworkGathers", spec := "networkGathers", unfollowed := true, recurses := true, apart := false }
def NetworkGathersSaid : Prop := networkGathersRow.holds Try.pinned (OpenSpec.ofChange networkGathersSpec)

/-- ITS FALSE NEIGHBOUR: 'it returns false'. Refute it at one input. -/
def networkGathersWrong : ChangeSpec := { name := "networkGathers", fn := fun _ => fun
  | [d] => { results := [.lit (.bool false)], args := [d] }
  | _ => none }
def NetworkGathersWrongFalsely : Prop := networkGathersRow.holds Try.pinned (OpenSpec.ofChange networkGathersWrong)

/-- 'trystlaw16.NetworkSizes': WHATEVER THE INPUT: true; the input reads as it did. -/
def networkSizesSpec : ChangeSpec := { name := "networkSizes", fn := fun _ => fun
  | [d] => { results := [.lit (.bool true)], args := [d] }
  | _ => none }
def networkSizesRow : OpenClaim := { program := "ythjjkfelpdkfpab", sum := "31381a90b85e3dbf5705a8f7cb4906554b096a4018b7a2f69cccdfd5a8139842", func := "tryst/trystlaw16.NetworkSizes", spec := "networkSizes", unfollowed := true, recurses := true, apart := false }
def NetworkSizesSaid : Prop := networkSizesRow.holds Try.pinned (OpenSpec.ofChange networkSizesSpec)

/-- ITS FALSE NEIGHBOUR: 'it returns false'. Refute it at one input. -/
def networkSizesWrong : ChangeSpec := { name := "networkSizes", fn := fun _ => fun
  | [d] => { results := [.lit (.bool false)], args := [d] }
  | _ => none }
def NetworkSizesWrongFalsely : Prop := networkSizesRow.holds Try.pinned (OpenSpec.ofChange networkSizesWrong)

/-- 'trystlaw16.NetworkKnown': WHATEVER THE INPUT: true; the input reads as it did. -/
def networkKnownSpec : ChangeSpec := { name := "networkKnown", fn := fun _ => fun
  | [] => { results := [.lit (.bool true)], args := [] }
  | _ => none }
def networkKnownRow : OpenClaim := { program := "ythjjkfelpdkfpab", sum := "31381a90b85e3dbf5705a8f7cb4906554b096a4018b7a2f69cccdfd5a8139842", func := "tryst/trystlaw16.NetworkKnown", spec := "networkKnown", unfollowed := true, recurses := true, apart := false }
def NetworkKnownSaid : Prop := networkKnownRow.holds Try.pinned (OpenSpec.ofChange networkKnownSpec)

/-- ITS FALSE NEIGHBOUR: 'it returns false'. Refute it at one input. -/
def networkKnownWrong : ChangeSpec := { name := "networkKnown", fn := fun _ => fun
  | [] => { results := [.lit (.bool false)], args := [] }
  | _ => none }
def NetworkKnownWrongFalsely : Prop := networkKnownRow.holds Try.pinned (OpenSpec.ofChange networkKnownWrong)

/- THE SECOND FORM. 'bulk': how many values and letters a reading holds, each counted each time it is reached (what is shared counts as often as it is met; a slice's spare places count too). A statement '..UptoSaid' is the law's where the arguments, and the package variables that the reading takes, are together of bulk at most 1048576: NARROWER than '..Said'. Prove '..Said' where nothing that the law and all that it calls make is longer than what came in: it says more and counts as full. Else prove '..UptoSaid'. A law counts once. -/
mutual
def uptoBulk {H : Type} : DataW H → Nat
  | .lit (.string bytes) => bytes.length + 1
  | .lit _ => 1
  | .nil => 1
  | .ptr d => uptoBulk d + 1
  | .slice elems spare => uptoBulkAll elems + uptoBulkAll spare + 1
  | .agg parts => uptoBulkAll parts + 1
  | .iface _ d => uptoBulk d + 1
  | .map entries => uptoBulkEntries entries + 1
  | .held _ => 1
def uptoBulkAll {H : Type} : List (DataW H) → Nat
  | [] => 0
  | d :: r => uptoBulk d + uptoBulkAll r
def uptoBulkEntries {H : Type} : List (Lit × DataW H) → Nat
  | [] => 0
  | x :: r => uptoBulkEntry x + uptoBulkEntries r
def uptoBulkEntry {H : Type} : Lit × DataW H → Nat
  | (.string bytes, d) => bytes.length + uptoBulk d + 1
  | (_, d) => uptoBulk d + 1
 end
def uptoSmall : (H : Type) → List (DataW H) → Bool := fun _ ds => decide (uptoBulkAll ds ≤ 1048576)
def OpenSpec.upto (s : _root_.Go.ChangeSpec) : _root_.Go.OpenSpec := { _root_.Go.OpenSpec.ofChange s with cond := some uptoSmall }

/-- 'trystlaw16.NetworkGathers', WHERE WHAT IT READS IS OF BULK AT MOST 1048576: true; the input reads as it did. -/
def networkGathersUptoRow : OpenClaim := { program := "ythjjkfelpdkfpab", sum := "31381a90b85e3dbf5705a8f7cb4906554b096a4018b7a2f69cccdfd5a8139842", func := "tryst/trystlaw16.NetworkGathers", spec := "networkGathers", unfollowed := true, recurses := true, apart := false, narrowed := true }
def NetworkGathersUptoSaid : Prop := networkGathersUptoRow.holds Try.pinned (OpenSpec.upto networkGathersSpec)

/-- 'trystlaw16.NetworkSizes', WHERE WHAT IT READS IS OF BULK AT MOST 1048576: true; the input reads as it did. -/
def networkSizesUptoRow : OpenClaim := { program := "ythjjkfelpdkfpab", sum := "31381a90b85e3dbf5705a8f7cb4906554b096a4018b7a2f69cccdfd5a8139842", func := "tryst/trystlaw16.NetworkSizes", spec := "networkSizes", unfollowed := true, recurses := true, apart := false, narrowed := true }
def NetworkSizesUptoSaid : Prop := networkSizesUptoRow.holds Try.pinned (OpenSpec.upto networkSizesSpec)

/-- 'trystlaw16.NetworkKnown', WHERE WHAT IT READS IS OF BULK AT MOST 1048576: true; the input reads as it did. -/
def networkKnownUptoRow : OpenClaim := { program := "ythjjkfelpdkfpab", sum := "31381a90b85e3dbf5705a8f7cb4906554b096a4018b7a2f69cccdfd5a8139842", func := "tryst/trystlaw16.NetworkKnown", spec := "networkKnown", unfollowed := true, recurses := true, apart := false, narrowed := true }
def NetworkKnownUptoSaid : Prop := networkKnownUptoRow.holds Try.pinned (OpenSpec.upto networkKnownSpec)

end Rows
end Go.Proofs.Ythjjkfelpdkfpab
