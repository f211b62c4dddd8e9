/-
  No cell of these rows narrows 'for every input' (looked for: loops, veiled, ifaces, maps, wideKeys, modest, calm, conditions, laid).
  DERIVED. THE GIVEN ROWS OF THIS SEAT. 4 by the template 'for every input the law returns true; each argument reads behind the call as it read before'; 0 by the template 'total and deterministic' (their statements: YtpanagghppdiiaaGreatTotals.lean).
  GIVEN WITH THE SEED: the statements are not yours to turn. If you find one false, say at which input.
  Laid BY PROGRAM, IN A SANDBOX (cutbox-rows.mjs): the forced cells as the released guide's own fill.sh prints them over the translation bc0e6ee66a6f1c6c… (all of the seat's roots in one cut). By AI agents, Wed Nov 11 2026. No macro, syntax, notation, axiom, sorry.
-/
import Derived.Test.YtpanagghppdiiaaGreatChecked
import GoSem.Claim
import GoSem.ClaimJoined
import GoSem.ClaimMapViews
import Derived.JoinedTies
import Derived.KernelRfl
namespace Go.Proofs.YtpanagghppdiiaaGreat
/- THE CELL 'sum', in the pinned program and in every row, IS THE sha256 OF THE DUMP (.gsa) THAT YtpanagghppdiiaaGreatProg.lean LOADS. Nothing in Lean hashes anything: it is a label: what it is worth is what the hold of that sum in a sandbox is worth. -/
noncomputable def Tryz.pinned : Pinned := { name := "ytpanagghppdiiaagreat", sum := "bc0e6ee66a6f1c6c784d424cde6d38c5c27bfa67ae9d4f9ba0604b16ba37b1bd", checked := Tryz.checked }
namespace Rows
def none {H : Type} : Left H := { results := [], args := [] }

/-- 'trystlaw17.SorterNames': WHATEVER THE INPUT: true; the input reads as it did. -/
def sorterNamesSpec : ChangeSpec := { name := "sorterNames", fn := fun _ => fun
  | [] => { results := [.lit (.bool true)], args := [] }
  | _ => none }
def sorterNamesRow : OpenClaim := { program := "ytpanagghppdiiaagreat", sum := "bc0e6ee66a6f1c6c784d424cde6d38c5c27bfa67ae9d4f9ba0604b16ba37b1bd", func := "tryst/trystlaw17.SorterNames", spec := "sorterNames", inPlace := ["math/bits.Add64", "math/bits.Sub64", "internal/reflectlite.TypeOf"], unfollowed := true, recurses := true, apart := false }
def SorterNamesSaid : Prop := sorterNamesRow.holds Tryz.pinned (OpenSpec.ofChange sorterNamesSpec)

/-- ITS FALSE NEIGHBOUR: 'it returns false'. Refute it at one input. -/
def sorterNamesWrong : ChangeSpec := { name := "sorterNames", fn := fun _ => fun
  | [] => { results := [.lit (.bool false)], args := [] }
  | _ => none }
def SorterNamesWrongFalsely : Prop := sorterNamesRow.holds Tryz.pinned (OpenSpec.ofChange sorterNamesWrong)

/-- 'trystlaw17.SorterBlind': WHATEVER THE INPUT: true; the input reads as it did. -/
def sorterBlindSpec : ChangeSpec := { name := "sorterBlind", fn := fun _ => fun
  | [d1, d2] => { results := [.lit (.bool true)], args := [d1, d2] }
  | _ => none }
def sorterBlindRow : OpenClaim := { program := "ytpanagghppdiiaagreat", sum := "bc0e6ee66a6f1c6c784d424cde6d38c5c27bfa67ae9d4f9ba0604b16ba37b1bd", func := "tryst/trystlaw17.SorterBlind", spec := "sorterBlind", inPlace := ["math/bits.Add64", "math/bits.Sub64", "internal/reflectlite.TypeOf"], unfollowed := true, recurses := true, apart := false }
def SorterBlindSaid : Prop := sorterBlindRow.holds Tryz.pinned (OpenSpec.ofChange sorterBlindSpec)

/-- ITS FALSE NEIGHBOUR: 'it returns false'. Refute it at one input. -/
def sorterBlindWrong : ChangeSpec := { name := "sorterBlind", fn := fun _ => fun
  | [d1, d2] => { results := [.lit (.bool false)], args := [d1, d2] }
  | _ => none }
def SorterBlindWrongFalsely : Prop := sorterBlindRow.holds Tryz.pinned (OpenSpec.ofChange sorterBlindWrong)

/-- 'trystlaw17.SorterSorts': WHATEVER THE INPUT: true; the input reads as it did. -/
def sorterSortsSpec : ChangeSpec := { name := "sorterSorts", fn := fun _ => fun
  | [d1, d2] => { results := [.lit (.bool true)], args := [d1, d2] }
  | _ => none }
def sorterSortsRow : OpenClaim := { program := "ytpanagghppdiiaagreat", sum := "bc0e6ee66a6f1c6c784d424cde6d38c5c27bfa67ae9d4f9ba0604b16ba37b1bd", func := "tryst/trystlaw17.SorterSorts", spec := "sorterSorts", inPlace := ["math/bits.Add64", "math/bits.Sub64", "internal/reflectlite.TypeOf"], unfollowed := true, recurses := true, apart := false }
def SorterSortsSaid : Prop := sorterSortsRow.holds Tryz.pinned (OpenSpec.ofChange sorterSortsSpec)

/-- ITS FALSE NEIGHBOUR: 'it returns false'. Refute it at one input. -/
def sorterSortsWrong : ChangeSpec := { name := "sorterSorts", fn := fun _ => fun
  | [d1, d2] => { results := [.lit (.bool false)], args := [d1, d2] }
  | _ => none }
def SorterSortsWrongFalsely : Prop := sorterSortsRow.holds Tryz.pinned (OpenSpec.ofChange sorterSortsWrong)

/-- 'trystlaw17.SorterBack': WHATEVER THE INPUT: true; the input reads as it did. -/
def sorterBackSpec : ChangeSpec := { name := "sorterBack", fn := fun _ => fun
  | [d1, d2] => { results := [.lit (.bool true)], args := [d1, d2] }
  | _ => none }
def sorterBackRow : OpenClaim := { program := "ytpanagghppdiiaagreat", sum := "bc0e6ee66a6f1c6c784d424cde6d38c5c27bfa67ae9d4f9ba0604b16ba37b1bd", func := "tryst/trystlaw17.SorterBack", spec := "sorterBack", inPlace := ["math/bits.Add64", "math/bits.Sub64", "internal/reflectlite.TypeOf"], unfollowed := true, recurses := true, apart := false }
def SorterBackSaid : Prop := sorterBackRow.holds Tryz.pinned (OpenSpec.ofChange sorterBackSpec)

/-- ITS FALSE NEIGHBOUR: 'it returns false'. Refute it at one input. -/
def sorterBackWrong : ChangeSpec := { name := "sorterBack", fn := fun _ => fun
  | [d1, d2] => { results := [.lit (.bool false)], args := [d1, d2] }
  | _ => none }
def SorterBackWrongFalsely : Prop := sorterBackRow.holds Tryz.pinned (OpenSpec.ofChange sorterBackWrong)

/- THE SECOND FORM. 'bulk': how many values and letters a reading holds, each counted each time it is reached (what is shared counts as often as it is met; a slice's spare places count too). A statement '..UptoSaid' is the law's where the arguments, and the package variables that the reading takes, are together of bulk at most 1048576: NARROWER than '..Said'. Prove '..Said' where nothing that the law and all that it calls make is longer than what came in: it says more and counts as full. Else prove '..UptoSaid'. A law counts once. -/
mutual
def uptoBulk {H : Type} : DataW H → Nat
  | .lit (.string bytes) => bytes.length + 1
  | .lit _ => 1
  | .nil => 1
  | .ptr d => uptoBulk d + 1
  | .slice elems spare => uptoBulkAll elems + uptoBulkAll spare + 1
  | .agg parts => uptoBulkAll parts + 1
  | .iface _ d => uptoBulk d + 1
  | .map entries => uptoBulkEntries entries + 1
  | .held _ => 1
def uptoBulkAll {H : Type} : List (DataW H) → Nat
  | [] => 0
  | d :: r => uptoBulk d + uptoBulkAll r
def uptoBulkEntries {H : Type} : List (Lit × DataW H) → Nat
  | [] => 0
  | x :: r => uptoBulkEntry x + uptoBulkEntries r
def uptoBulkEntry {H : Type} : Lit × DataW H → Nat
  | (.string bytes, d) => bytes.length + uptoBulk d + 1
  | (_, d) => uptoBulk d + 1
 end
def uptoSmall : (H : Type) → List (DataW H) → Bool := fun _ ds => decide (uptoBulkAll ds ≤ 1048576)
def OpenSpec.upto (s : _root_.Go.ChangeSpec) : _root_.Go.OpenSpec := { _root_.Go.OpenSpec.ofChange s with cond := some uptoSmall }

/-- 'trystlaw17.SorterNames', WHERE WHAT IT READS IS OF BULK AT MOST 1048576: true; the input reads as it did. -/
def sorterNamesUptoRow : OpenClaim := { program := "ytpanagghppdiiaagreat", sum := "bc0e6ee66a6f1c6c784d424cde6d38c5c27bfa67ae9d4f9ba0604b16ba37b1bd", func := "tryst/trystlaw17.SorterNames", spec := "sorterNames", inPlace := ["math/bits.Add64", "math/bits.Sub64", "internal/reflectlite.TypeOf"], unfollowed := true, recurses := true, apart := false, narrowed := true }
def SorterNamesUptoSaid : Prop := sorterNamesUptoRow.holds Tryz.pinned (OpenSpec.upto sorterNamesSpec)

/-- 'trystlaw17.SorterBlind', WHERE WHAT IT READS IS OF BULK AT MOST 1048576: true; the input reads as it did. -/
def sorterBlindUptoRow : OpenClaim := { program := "ytpanagghppdiiaagreat", sum := "bc0e6ee66a6f1c6c784d424cde6d38c5c27bfa67ae9d4f9ba0604b16ba37b1bd", func := "tryst/trystlaw17.SorterBlind", spec := "sorterBlind", inPlace := ["math/bits.Add64", "math/bits.Sub64", "internal/reflectlite.TypeOf"], unfollowed := true, recurses := true, apart := false, narrowed := true }
def SorterBlindUptoSaid : Prop := sorterBlindUptoRow.holds Tryz.pinned (OpenSpec.upto sorterBlindSpec)

/-- 'trystlaw17.SorterSorts', WHERE WHAT IT READS IS OF BULK AT MOST 1048576: true; the input reads as it did. -/
def sorterSortsUptoRow : OpenClaim := { program := "ytpanagghppdiiaagreat", sum := "bc0e6ee66a6f1c6c784d424cde6d38c5c27bfa67ae9d4f9ba0604b16ba37b1bd", func := "tryst/trystlaw17.SorterSorts", spec := "sorterSorts", inPlace := ["math/bits.Add64", "math/bits.Sub64", "internal/reflectlite.TypeOf"], unfollowed := true, recurses := true, apart := false, narrowed := true }
def SorterSortsUptoSaid : Prop := sorterSortsUptoRow.holds Tryz.pinned (OpenSpec.upto sorterSortsSpec)

/-- 'trystlaw17.SorterBack', WHERE WHAT IT READS IS OF BULK AT MOST 1048576: true; the input reads as it did. -/
def sorterBackUptoRow : OpenClaim := { program := "ytpanagghppdiiaagreat", sum := "bc0e6ee66a6f1c6c784d424cde6d38c5c27bfa67ae9d4f9ba0604b16ba37b1bd", func := "tryst/trystlaw17.SorterBack", spec := "sorterBack", inPlace := ["math/bits.Add64", "math/bits.Sub64", "internal/reflectlite.TypeOf"], unfollowed := true, recurses := true, apart := false, narrowed := true }
def SorterBackUptoSaid : Prop := sorterBackUptoRow.holds Tryz.pinned (OpenSpec.upto sorterBackSpec)

end Rows
end Go.Proofs.YtpanagghppdiiaaGreat
