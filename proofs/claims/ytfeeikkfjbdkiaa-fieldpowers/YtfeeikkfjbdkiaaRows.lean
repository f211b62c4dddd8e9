/-
  No cell of these rows narrows 'for every input' (looked for: loops, veiled, ifaces, maps, wideKeys, modest, calm, conditions, laid).
  DERIVED. THE GIVEN ROWS OF THIS SEAT. 9 by the template 'for every input the law returns true; each argument reads behind the call as it read before'; 0 by the template 'total and deterministic' (their statements: YtfeeikkfjbdkiaaTotals.lean).
  GIVEN WITH THE SEED: the statements are not yours to turn. If you find one false, say at which input.
  Laid BY PROGRAM, IN A SANDBOX (cutbox-rows.mjs): the forced cells as the released guide's own fill.sh prints them over the translation 59b1e7a9f250ea6b… (all of the seat's roots in one cut). By AI agents, Wed Nov 11 2026. No macro, syntax, notation, axiom, sorry.
-/
import Derived.Test.YtfeeikkfjbdkiaaChecked
import GoSem.Claim
import GoSem.ClaimJoined
import GoSem.ClaimMapViews
import Derived.JoinedTies
import Derived.KernelRfl
namespace Go.Proofs.Ytfeeikkfjbdkiaa
/- THE CELL 'sum', in the pinned program and in every row, IS THE sha256 OF THE DUMP (.gsa) THAT YtfeeikkfjbdkiaaProg.lean LOADS. Nothing in Lean hashes anything: it is a label: what it is worth is what the hold of that sum in a sandbox is worth. -/
noncomputable def Try.pinned : Pinned := { name := "ytfeeikkfjbdkiaa", sum := "59b1e7a9f250ea6b783edde286557ea3c52caea1d93d16616643e8b0a1142e40", checked := Try.checked }
namespace Rows
def none {H : Type} : Left H := { results := [], args := [] }

/-- 'trystlaw08.FieldOf': WHATEVER THE INPUT: true; the input reads as it did. -/
def fieldOfSpec : ChangeSpec := { name := "fieldOf", fn := fun _ => fun
  | [d1, d2] => { results := [.lit (.bool true)], args := [d1, d2] }
  | _ => none }
def fieldOfRow : OpenClaim := { program := "ytfeeikkfjbdkiaa", sum := "59b1e7a9f250ea6b783edde286557ea3c52caea1d93d16616643e8b0a1142e40", func := "tryst/trystlaw08.FieldOf", spec := "fieldOf", apart := false }
def FieldOfSaid : Prop := fieldOfRow.holds Try.pinned (OpenSpec.ofChange fieldOfSpec)

/-- ITS FALSE NEIGHBOUR: 'it returns false'. Refute it at one input. -/
def fieldOfWrong : ChangeSpec := { name := "fieldOf", fn := fun _ => fun
  | [d1, d2] => { results := [.lit (.bool false)], args := [d1, d2] }
  | _ => none }
def FieldOfWrongFalsely : Prop := fieldOfRow.holds Try.pinned (OpenSpec.ofChange fieldOfWrong)

/-- 'trystlaw08.FieldPlays': WHATEVER THE INPUT: true; the input reads as it did. -/
def fieldPlaysSpec : ChangeSpec := { name := "fieldPlays", fn := fun _ => fun
  | [d1, d2] => { results := [.lit (.bool true)], args := [d1, d2] }
  | _ => none }
def fieldPlaysRow : OpenClaim := { program := "ytfeeikkfjbdkiaa", sum := "59b1e7a9f250ea6b783edde286557ea3c52caea1d93d16616643e8b0a1142e40", func := "tryst/trystlaw08.FieldPlays", spec := "fieldPlays", inPlace := ["math/bits.Add64"], unfollowed := true, recurses := true, apart := false }
def FieldPlaysSaid : Prop := fieldPlaysRow.holds Try.pinned (OpenSpec.ofChange fieldPlaysSpec)

/-- ITS FALSE NEIGHBOUR: 'it returns false'. Refute it at one input. -/
def fieldPlaysWrong : ChangeSpec := { name := "fieldPlays", fn := fun _ => fun
  | [d1, d2] => { results := [.lit (.bool false)], args := [d1, d2] }
  | _ => none }
def FieldPlaysWrongFalsely : Prop := fieldPlaysRow.holds Try.pinned (OpenSpec.ofChange fieldPlaysWrong)

/-- 'trystlaw08.FieldPowers': WHATEVER THE INPUT: true; the input reads as it did. -/
def fieldPowersSpec : ChangeSpec := { name := "fieldPowers", fn := fun _ => fun
  | [d1, d2] => { results := [.lit (.bool true)], args := [d1, d2] }
  | _ => none }
def fieldPowersRow : OpenClaim := { program := "ytfeeikkfjbdkiaa", sum := "59b1e7a9f250ea6b783edde286557ea3c52caea1d93d16616643e8b0a1142e40", func := "tryst/trystlaw08.FieldPowers", spec := "fieldPowers", inPlace := ["math/bits.Add64"], unfollowed := true, recurses := true, apart := false }
def FieldPowersSaid : Prop := fieldPowersRow.holds Try.pinned (OpenSpec.ofChange fieldPowersSpec)

/-- ITS FALSE NEIGHBOUR: 'it returns false'. Refute it at one input. -/
def fieldPowersWrong : ChangeSpec := { name := "fieldPowers", fn := fun _ => fun
  | [d1, d2] => { results := [.lit (.bool false)], args := [d1, d2] }
  | _ => none }
def FieldPowersWrongFalsely : Prop := fieldPowersRow.holds Try.pinned (OpenSpec.ofChange fieldPowersWrong)

/-- 'trystlaw08.FieldRing': WHATEVER THE INPUT: true; the input reads as it did. -/
def fieldRingSpec : ChangeSpec := { name := "fieldRing", fn := fun _ => fun
  | [d1, d2, d3] => { results := [.lit (.bool true)], args := [d1, d2, d3] }
  | _ => none }
def fieldRingRow : OpenClaim := { program := "ytfeeikkfjbdkiaa", sum := "59b1e7a9f250ea6b783edde286557ea3c52caea1d93d16616643e8b0a1142e40", func := "tryst/trystlaw08.FieldRing", spec := "fieldRing", inPlace := ["math/bits.Add64"], apart := false }
def FieldRingSaid : Prop := fieldRingRow.holds Try.pinned (OpenSpec.ofChange fieldRingSpec)

/-- ITS FALSE NEIGHBOUR: 'it returns false'. Refute it at one input. -/
def fieldRingWrong : ChangeSpec := { name := "fieldRing", fn := fun _ => fun
  | [d1, d2, d3] => { results := [.lit (.bool false)], args := [d1, d2, d3] }
  | _ => none }
def FieldRingWrongFalsely : Prop := fieldRingRow.holds Try.pinned (OpenSpec.ofChange fieldRingWrong)

/-- 'trystlaw08.FieldInverse': WHATEVER THE INPUT: true; the input reads as it did. -/
def fieldInverseSpec : ChangeSpec := { name := "fieldInverse", fn := fun _ => fun
  | [d1, d2] => { results := [.lit (.bool true)], args := [d1, d2] }
  | _ => none }
def fieldInverseRow : OpenClaim := { program := "ytfeeikkfjbdkiaa", sum := "59b1e7a9f250ea6b783edde286557ea3c52caea1d93d16616643e8b0a1142e40", func := "tryst/trystlaw08.FieldInverse", spec := "fieldInverse", inPlace := ["math/bits.Add64"], unfollowed := true, recurses := true, apart := false }
def FieldInverseSaid : Prop := fieldInverseRow.holds Try.pinned (OpenSpec.ofChange fieldInverseSpec)

/-- ITS FALSE NEIGHBOUR: 'it returns false'. Refute it at one input. -/
def fieldInverseWrong : ChangeSpec := { name := "fieldInverse", fn := fun _ => fun
  | [d1, d2] => { results := [.lit (.bool false)], args := [d1, d2] }
  | _ => none }
def FieldInverseWrongFalsely : Prop := fieldInverseRow.holds Try.pinned (OpenSpec.ofChange fieldInverseWrong)

/-- 'trystlaw08.FieldForm': WHATEVER THE INPUT: true; the input reads as it did. -/
def fieldFormSpec : ChangeSpec := { name := "fieldForm", fn := fun _ => fun
  | [d1, d2] => { results := [.lit (.bool true)], args := [d1, d2] }
  | _ => none }
def fieldFormRow : OpenClaim := { program := "ytfeeikkfjbdkiaa", sum := "59b1e7a9f250ea6b783edde286557ea3c52caea1d93d16616643e8b0a1142e40", func := "tryst/trystlaw08.FieldForm", spec := "fieldForm", inPlace := ["math/bits.Add64"], apart := false }
def FieldFormSaid : Prop := fieldFormRow.holds Try.pinned (OpenSpec.ofChange fieldFormSpec)

/-- ITS FALSE NEIGHBOUR: 'it returns false'. Refute it at one input. -/
def fieldFormWrong : ChangeSpec := { name := "fieldForm", fn := fun _ => fun
  | [d1, d2] => { results := [.lit (.bool false)], args := [d1, d2] }
  | _ => none }
def FieldFormWrongFalsely : Prop := fieldFormRow.holds Try.pinned (OpenSpec.ofChange fieldFormWrong)

/-- 'trystlaw08.FieldPowerLaws': WHATEVER THE INPUT: true; the input reads as it did. -/
def fieldPowerLawsSpec : ChangeSpec := { name := "fieldPowerLaws", fn := fun _ => fun
  | [d] => { results := [.lit (.bool true)], args := [d] }
  | _ => none }
def fieldPowerLawsRow : OpenClaim := { program := "ytfeeikkfjbdkiaa", sum := "59b1e7a9f250ea6b783edde286557ea3c52caea1d93d16616643e8b0a1142e40", func := "tryst/trystlaw08.FieldPowerLaws", spec := "fieldPowerLaws", inPlace := ["math/bits.Add64"], unfollowed := true, recurses := true, apart := false }
def FieldPowerLawsSaid : Prop := fieldPowerLawsRow.holds Try.pinned (OpenSpec.ofChange fieldPowerLawsSpec)

/-- ITS FALSE NEIGHBOUR: 'it returns false'. Refute it at one input. -/
def fieldPowerLawsWrong : ChangeSpec := { name := "fieldPowerLaws", fn := fun _ => fun
  | [d] => { results := [.lit (.bool false)], args := [d] }
  | _ => none }
def FieldPowerLawsWrongFalsely : Prop := fieldPowerLawsRow.holds Try.pinned (OpenSpec.ofChange fieldPowerLawsWrong)

/-- 'trystlaw08.FieldChoice': WHATEVER THE INPUT: true; the input reads as it did. -/
def fieldChoiceSpec : ChangeSpec := { name := "fieldChoice", fn := fun _ => fun
  | [d1, d2, d3] => { results := [.lit (.bool true)], args := [d1, d2, d3] }
  | _ => none }
def fieldChoiceRow : OpenClaim := { program := "ytfeeikkfjbdkiaa", sum := "59b1e7a9f250ea6b783edde286557ea3c52caea1d93d16616643e8b0a1142e40", func := "tryst/trystlaw08.FieldChoice", spec := "fieldChoice", inPlace := ["math/bits.Add64"], apart := false }
def FieldChoiceSaid : Prop := fieldChoiceRow.holds Try.pinned (OpenSpec.ofChange fieldChoiceSpec)

/-- ITS FALSE NEIGHBOUR: 'it returns false'. Refute it at one input. -/
def fieldChoiceWrong : ChangeSpec := { name := "fieldChoice", fn := fun _ => fun
  | [d1, d2, d3] => { results := [.lit (.bool false)], args := [d1, d2, d3] }
  | _ => none }
def FieldChoiceWrongFalsely : Prop := fieldChoiceRow.holds Try.pinned (OpenSpec.ofChange fieldChoiceWrong)

/-- 'trystlaw08.FieldNames': WHATEVER THE INPUT: true; the input reads as it did. -/
def fieldNamesSpec : ChangeSpec := { name := "fieldNames", fn := fun _ => fun
  | [] => { results := [.lit (.bool true)], args := [] }
  | _ => none }
def fieldNamesRow : OpenClaim := { program := "ytfeeikkfjbdkiaa", sum := "59b1e7a9f250ea6b783edde286557ea3c52caea1d93d16616643e8b0a1142e40", func := "tryst/trystlaw08.FieldNames", spec := "fieldNames", inPlace := ["math/bits.Add64"], unfollowed := true, recurses := true, apart := false }
def FieldNamesSaid : Prop := fieldNamesRow.holds Try.pinned (OpenSpec.ofChange fieldNamesSpec)

/-- ITS FALSE NEIGHBOUR: 'it returns false'. Refute it at one input. -/
def fieldNamesWrong : ChangeSpec := { name := "fieldNames", fn := fun _ => fun
  | [] => { results := [.lit (.bool false)], args := [] }
  | _ => none }
def FieldNamesWrongFalsely : Prop := fieldNamesRow.holds Try.pinned (OpenSpec.ofChange fieldNamesWrong)

/- THE SECOND FORM. 'bulk': how many values and letters a reading holds, each counted each time it is reached (what is shared counts as often as it is met; a slice's spare places count too). A statement '..UptoSaid' is the law's where the arguments, and the package variables that the reading takes, are together of bulk at most 1048576: NARROWER than '..Said'. Prove '..Said' where nothing that the law and all that it calls make is longer than what came in: it says more and counts as full. Else prove '..UptoSaid'. A law counts once. -/
mutual
def uptoBulk {H : Type} : DataW H → Nat
  | .lit (.string bytes) => bytes.length + 1
  | .lit _ => 1
  | .nil => 1
  | .ptr d => uptoBulk d + 1
  | .slice elems spare => uptoBulkAll elems + uptoBulkAll spare + 1
  | .agg parts => uptoBulkAll parts + 1
  | .iface _ d => uptoBulk d + 1
  | .map entries => uptoBulkEntries entries + 1
  | .held _ => 1
def uptoBulkAll {H : Type} : List (DataW H) → Nat
  | [] => 0
  | d :: r => uptoBulk d + uptoBulkAll r
def uptoBulkEntries {H : Type} : List (Lit × DataW H) → Nat
  | [] => 0
  | x :: r => uptoBulkEntry x + uptoBulkEntries r
def uptoBulkEntry {H : Type} : Lit × DataW H → Nat
  | (.string bytes, d) => bytes.length + uptoBulk d + 1
  | (_, d) => uptoBulk d + 1
 end
def uptoSmall : (H : Type) → List (DataW H) → Bool := fun _ ds => decide (uptoBulkAll ds ≤ 1048576)
def OpenSpec.upto (s : _root_.Go.ChangeSpec) : _root_.Go.OpenSpec := { _root_.Go.OpenSpec.ofChange s with cond := some uptoSmall }

/-- 'trystlaw08.FieldOf', WHERE WHAT IT READS IS OF BULK AT MOST 1048576: true; the input reads as it did. -/
def fieldOfUptoRow : OpenClaim := { program := "ytfeeikkfjbdkiaa", sum := "59b1e7a9f250ea6b783edde286557ea3c52caea1d93d16616643e8b0a1142e40", func := "tryst/trystlaw08.FieldOf", spec := "fieldOf", apart := false, narrowed := true }
def FieldOfUptoSaid : Prop := fieldOfUptoRow.holds Try.pinned (OpenSpec.upto fieldOfSpec)

/-- 'trystlaw08.FieldPlays', WHERE WHAT IT READS IS OF BULK AT MOST 1048576: true; the input reads as it did. -/
def fieldPlaysUptoRow : OpenClaim := { program := "ytfeeikkfjbdkiaa", sum := "59b1e7a9f250ea6b783edde286557ea3c52caea1d93d16616643e8b0a1142e40", func := "tryst/trystlaw08.FieldPlays", spec := "fieldPlays", inPlace := ["math/bits.Add64"], unfollowed := true, recurses := true, apart := false, narrowed := true }
def FieldPlaysUptoSaid : Prop := fieldPlaysUptoRow.holds Try.pinned (OpenSpec.upto fieldPlaysSpec)

/-- 'trystlaw08.FieldPowers', WHERE WHAT IT READS IS OF BULK AT MOST 1048576: true; the input reads as it did. -/
def fieldPowersUptoRow : OpenClaim := { program := "ytfeeikkfjbdkiaa", sum := "59b1e7a9f250ea6b783edde286557ea3c52caea1d93d16616643e8b0a1142e40", func := "tryst/trystlaw08.FieldPowers", spec := "fieldPowers", inPlace := ["math/bits.Add64"], unfollowed := true, recurses := true, apart := false, narrowed := true }
def FieldPowersUptoSaid : Prop := fieldPowersUptoRow.holds Try.pinned (OpenSpec.upto fieldPowersSpec)

/-- 'trystlaw08.FieldRing', WHERE WHAT IT READS IS OF BULK AT MOST 1048576: true; the input reads as it did. -/
def fieldRingUptoRow : OpenClaim := { program := "ytfeeikkfjbdkiaa", sum := "59b1e7a9f250ea6b783edde286557ea3c52caea1d93d16616643e8b0a1142e40", func := "tryst/trystlaw08.FieldRing", spec := "fieldRing", inPlace := ["math/bits.Add64"], apart := false, narrowed := true }
def FieldRingUptoSaid : Prop := fieldRingUptoRow.holds Try.pinned (OpenSpec.upto fieldRingSpec)

/-- 'trystlaw08.FieldInverse', WHERE WHAT IT READS IS OF BULK AT MOST 1048576: true; the input reads as it did. -/
def fieldInverseUptoRow : OpenClaim := { program := "ytfeeikkfjbdkiaa", sum := "59b1e7a9f250ea6b783edde286557ea3c52caea1d93d16616643e8b0a1142e40", func := "tryst/trystlaw08.FieldInverse", spec := "fieldInverse", inPlace := ["math/bits.Add64"], unfollowed := true, recurses := true, apart := false, narrowed := true }
def FieldInverseUptoSaid : Prop := fieldInverseUptoRow.holds Try.pinned (OpenSpec.upto fieldInverseSpec)

/-- 'trystlaw08.FieldForm', WHERE WHAT IT READS IS OF BULK AT MOST 1048576: true; the input reads as it did. -/
def fieldFormUptoRow : OpenClaim := { program := "ytfeeikkfjbdkiaa", sum := "59b1e7a9f250ea6b783edde286557ea3c52caea1d93d16616643e8b0a1142e40", func := "tryst/trystlaw08.FieldForm", spec := "fieldForm", inPlace := ["math/bits.Add64"], apart := false, narrowed := true }
def FieldFormUptoSaid : Prop := fieldFormUptoRow.holds Try.pinned (OpenSpec.upto fieldFormSpec)

/-- 'trystlaw08.FieldPowerLaws', WHERE WHAT IT READS IS OF BULK AT MOST 1048576: true; the input reads as it did. -/
def fieldPowerLawsUptoRow : OpenClaim := { program := "ytfeeikkfjbdkiaa", sum := "59b1e7a9f250ea6b783edde286557ea3c52caea1d93d16616643e8b0a1142e40", func := "tryst/trystlaw08.FieldPowerLaws", spec := "fieldPowerLaws", inPlace := ["math/bits.Add64"], unfollowed := true, recurses := true, apart := false, narrowed := true }
def FieldPowerLawsUptoSaid : Prop := fieldPowerLawsUptoRow.holds Try.pinned (OpenSpec.upto fieldPowerLawsSpec)

/-- 'trystlaw08.FieldChoice', WHERE WHAT IT READS IS OF BULK AT MOST 1048576: true; the input reads as it did. -/
def fieldChoiceUptoRow : OpenClaim := { program := "ytfeeikkfjbdkiaa", sum := "59b1e7a9f250ea6b783edde286557ea3c52caea1d93d16616643e8b0a1142e40", func := "tryst/trystlaw08.FieldChoice", spec := "fieldChoice", inPlace := ["math/bits.Add64"], apart := false, narrowed := true }
def FieldChoiceUptoSaid : Prop := fieldChoiceUptoRow.holds Try.pinned (OpenSpec.upto fieldChoiceSpec)

/-- 'trystlaw08.FieldNames', WHERE WHAT IT READS IS OF BULK AT MOST 1048576: true; the input reads as it did. -/
def fieldNamesUptoRow : OpenClaim := { program := "ytfeeikkfjbdkiaa", sum := "59b1e7a9f250ea6b783edde286557ea3c52caea1d93d16616643e8b0a1142e40", func := "tryst/trystlaw08.FieldNames", spec := "fieldNames", inPlace := ["math/bits.Add64"], unfollowed := true, recurses := true, apart := false, narrowed := true }
def FieldNamesUptoSaid : Prop := fieldNamesUptoRow.holds Try.pinned (OpenSpec.upto fieldNamesSpec)

end Rows
end Go.Proofs.Ytfeeikkfjbdkiaa
