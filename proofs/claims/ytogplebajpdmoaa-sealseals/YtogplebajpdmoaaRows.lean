/-
  No cell of these rows narrows 'for every input' (looked for: loops, veiled, ifaces, maps, wideKeys, modest, calm, conditions, laid).
  DERIVED. THE GIVEN ROWS OF THIS SEAT. 11 by the template 'for every input the law returns true; each argument reads behind the call as it read before'; 0 by the template 'total and deterministic' (their statements: YtogplebajpdmoaaTotals.lean).
  GIVEN WITH THE SEED: the statements are not yours to turn. If you find one false, say at which input.
  Laid BY PROGRAM, IN A SANDBOX (cutbox-rows.mjs): the forced cells as the released guide's own fill.sh prints them over the translation bd1e42ffd4630c2b… (all of the seat's roots in one cut). By AI agents, Wed Nov 11 2026. No macro, syntax, notation, axiom, sorry.
-/
import Derived.Test.YtogplebajpdmoaaChecked
import GoSem.Claim
import GoSem.ClaimJoined
import GoSem.ClaimMapViews
import Derived.JoinedTies
import Derived.KernelRfl
namespace Go.Proofs.Ytogplebajpdmoaa
/- THE CELL 'sum', in the pinned program and in every row, IS THE sha256 OF THE DUMP (.gsa) THAT YtogplebajpdmoaaProg.lean LOADS. Nothing in Lean hashes anything: it is a label: what it is worth is what the hold of that sum in a sandbox is worth. -/
noncomputable def Try.pinned : Pinned := { name := "ytogplebajpdmoaa", sum := "bd1e42ffd4630c2bb3ecca6d3c914fb618fc3e8908ce2c793722b00f8393f018", checked := Try.checked }
namespace Rows
def none {H : Type} : Left H := { results := [], args := [] }

/-- 'trystlaw07.SealNonces': WHATEVER THE INPUT: true; the input reads as it did. -/
def sealNoncesSpec : ChangeSpec := { name := "sealNonces", fn := fun _ => fun
  | [d1, d2] => { results := [.lit (.bool true)], args := [d1, d2] }
  | _ => none }
def sealNoncesRow : OpenClaim := { program := "ytogplebajpdmoaa", sum := "bd1e42ffd4630c2bb3ecca6d3c914fb618fc3e8908ce2c793722b00f8393f018", func := "tryst/trystlaw07.SealNonces", spec := "sealNonces", inPlace := ["math/bits.Add64", "math/bits.Sub64"], apart := false }
def SealNoncesSaid : Prop := sealNoncesRow.holds Try.pinned (OpenSpec.ofChange sealNoncesSpec)

/-- ITS FALSE NEIGHBOUR: 'it returns false'. Refute it at one input. -/
def sealNoncesWrong : ChangeSpec := { name := "sealNonces", fn := fun _ => fun
  | [d1, d2] => { results := [.lit (.bool false)], args := [d1, d2] }
  | _ => none }
def SealNoncesWrongFalsely : Prop := sealNoncesRow.holds Try.pinned (OpenSpec.ofChange sealNoncesWrong)

/-- 'trystlaw07.SealSeals': WHATEVER THE INPUT: true; the input reads as it did. -/
def sealSealsSpec : ChangeSpec := { name := "sealSeals", fn := fun _ => fun
  | [d] => { results := [.lit (.bool true)], args := [d] }
  | _ => none }
def sealSealsRow : OpenClaim := { program := "ytogplebajpdmoaa", sum := "bd1e42ffd4630c2bb3ecca6d3c914fb618fc3e8908ce2c793722b00f8393f018", func := "tryst/trystlaw07.SealSeals", spec := "sealSeals", inPlace := ["math/bits.Add64", "math/bits.Sub64"], apart := false }
def SealSealsSaid : Prop := sealSealsRow.holds Try.pinned (OpenSpec.ofChange sealSealsSpec)

/-- ITS FALSE NEIGHBOUR: 'it returns false'. Refute it at one input. -/
def sealSealsWrong : ChangeSpec := { name := "sealSeals", fn := fun _ => fun
  | [d] => { results := [.lit (.bool false)], args := [d] }
  | _ => none }
def SealSealsWrongFalsely : Prop := sealSealsRow.holds Try.pinned (OpenSpec.ofChange sealSealsWrong)

/-- 'trystlaw07.SealOpens': WHATEVER THE INPUT: true; the input reads as it did. -/
def sealOpensSpec : ChangeSpec := { name := "sealOpens", fn := fun _ => fun
  | [d] => { results := [.lit (.bool true)], args := [d] }
  | _ => none }
def sealOpensRow : OpenClaim := { program := "ytogplebajpdmoaa", sum := "bd1e42ffd4630c2bb3ecca6d3c914fb618fc3e8908ce2c793722b00f8393f018", func := "tryst/trystlaw07.SealOpens", spec := "sealOpens", inPlace := ["math/bits.Add64", "math/bits.Sub64"], apart := false }
def SealOpensSaid : Prop := sealOpensRow.holds Try.pinned (OpenSpec.ofChange sealOpensSpec)

/-- ITS FALSE NEIGHBOUR: 'it returns false'. Refute it at one input. -/
def sealOpensWrong : ChangeSpec := { name := "sealOpens", fn := fun _ => fun
  | [d] => { results := [.lit (.bool false)], args := [d] }
  | _ => none }
def SealOpensWrongFalsely : Prop := sealOpensRow.holds Try.pinned (OpenSpec.ofChange sealOpensWrong)

/-- 'trystlaw07.SealBack': WHATEVER THE INPUT: true; the input reads as it did. -/
def sealBackSpec : ChangeSpec := { name := "sealBack", fn := fun _ => fun
  | [d] => { results := [.lit (.bool true)], args := [d] }
  | _ => none }
def sealBackRow : OpenClaim := { program := "ytogplebajpdmoaa", sum := "bd1e42ffd4630c2bb3ecca6d3c914fb618fc3e8908ce2c793722b00f8393f018", func := "tryst/trystlaw07.SealBack", spec := "sealBack", inPlace := ["math/bits.Add64", "math/bits.Sub64"], apart := false }
def SealBackSaid : Prop := sealBackRow.holds Try.pinned (OpenSpec.ofChange sealBackSpec)

/-- ITS FALSE NEIGHBOUR: 'it returns false'. Refute it at one input. -/
def sealBackWrong : ChangeSpec := { name := "sealBack", fn := fun _ => fun
  | [d] => { results := [.lit (.bool false)], args := [d] }
  | _ => none }
def SealBackWrongFalsely : Prop := sealBackRow.holds Try.pinned (OpenSpec.ofChange sealBackWrong)

/-- 'trystlaw07.SealOneForm': WHATEVER THE INPUT: true; the input reads as it did. -/
def sealOneFormSpec : ChangeSpec := { name := "sealOneForm", fn := fun _ => fun
  | [d] => { results := [.lit (.bool true)], args := [d] }
  | _ => none }
def sealOneFormRow : OpenClaim := { program := "ytogplebajpdmoaa", sum := "bd1e42ffd4630c2bb3ecca6d3c914fb618fc3e8908ce2c793722b00f8393f018", func := "tryst/trystlaw07.SealOneForm", spec := "sealOneForm", inPlace := ["math/bits.Add64", "math/bits.Sub64"], apart := false }
def SealOneFormSaid : Prop := sealOneFormRow.holds Try.pinned (OpenSpec.ofChange sealOneFormSpec)

/-- ITS FALSE NEIGHBOUR: 'it returns false'. Refute it at one input. -/
def sealOneFormWrong : ChangeSpec := { name := "sealOneForm", fn := fun _ => fun
  | [d] => { results := [.lit (.bool false)], args := [d] }
  | _ => none }
def SealOneFormWrongFalsely : Prop := sealOneFormRow.holds Try.pinned (OpenSpec.ofChange sealOneFormWrong)

/-- 'trystlaw07.SealCovers': WHATEVER THE INPUT: true; the input reads as it did. -/
def sealCoversSpec : ChangeSpec := { name := "sealCovers", fn := fun _ => fun
  | [d1, d2, d3] => { results := [.lit (.bool true)], args := [d1, d2, d3] }
  | _ => none }
def sealCoversRow : OpenClaim := { program := "ytogplebajpdmoaa", sum := "bd1e42ffd4630c2bb3ecca6d3c914fb618fc3e8908ce2c793722b00f8393f018", func := "tryst/trystlaw07.SealCovers", spec := "sealCovers", inPlace := ["math/bits.Add64", "math/bits.Sub64"], apart := false }
def SealCoversSaid : Prop := sealCoversRow.holds Try.pinned (OpenSpec.ofChange sealCoversSpec)

/-- ITS FALSE NEIGHBOUR: 'it returns false'. Refute it at one input. -/
def sealCoversWrong : ChangeSpec := { name := "sealCovers", fn := fun _ => fun
  | [d1, d2, d3] => { results := [.lit (.bool false)], args := [d1, d2, d3] }
  | _ => none }
def SealCoversWrongFalsely : Prop := sealCoversRow.holds Try.pinned (OpenSpec.ofChange sealCoversWrong)

/-- 'trystlaw06.TagSums': WHATEVER THE INPUT: true; the input reads as it did. -/
def tagSumsSpec : ChangeSpec := { name := "tagSums", fn := fun _ => fun
  | [d1, d2] => { results := [.lit (.bool true)], args := [d1, d2] }
  | _ => none }
def tagSumsRow : OpenClaim := { program := "ytogplebajpdmoaa", sum := "bd1e42ffd4630c2bb3ecca6d3c914fb618fc3e8908ce2c793722b00f8393f018", func := "tryst/trystlaw06.TagSums", spec := "tagSums", inPlace := ["math/bits.Add64", "math/bits.Sub64"], apart := false }
def TagSumsSaid : Prop := tagSumsRow.holds Try.pinned (OpenSpec.ofChange tagSumsSpec)

/-- ITS FALSE NEIGHBOUR: 'it returns false'. Refute it at one input. -/
def tagSumsWrong : ChangeSpec := { name := "tagSums", fn := fun _ => fun
  | [d1, d2] => { results := [.lit (.bool false)], args := [d1, d2] }
  | _ => none }
def TagSumsWrongFalsely : Prop := tagSumsRow.holds Try.pinned (OpenSpec.ofChange tagSumsWrong)

/-- 'trystlaw06.TagChecks': WHATEVER THE INPUT: true; the input reads as it did. -/
def tagChecksSpec : ChangeSpec := { name := "tagChecks", fn := fun _ => fun
  | [d1, d2, d3] => { results := [.lit (.bool true)], args := [d1, d2, d3] }
  | _ => none }
def tagChecksRow : OpenClaim := { program := "ytogplebajpdmoaa", sum := "bd1e42ffd4630c2bb3ecca6d3c914fb618fc3e8908ce2c793722b00f8393f018", func := "tryst/trystlaw06.TagChecks", spec := "tagChecks", inPlace := ["math/bits.Add64", "math/bits.Sub64"], apart := false }
def TagChecksSaid : Prop := tagChecksRow.holds Try.pinned (OpenSpec.ofChange tagChecksSpec)

/-- ITS FALSE NEIGHBOUR: 'it returns false'. Refute it at one input. -/
def tagChecksWrong : ChangeSpec := { name := "tagChecks", fn := fun _ => fun
  | [d1, d2, d3] => { results := [.lit (.bool false)], args := [d1, d2, d3] }
  | _ => none }
def TagChecksWrongFalsely : Prop := tagChecksRow.holds Try.pinned (OpenSpec.ofChange tagChecksWrong)

/-- 'trystlaw06.TagPlays': WHATEVER THE INPUT: true; the input reads as it did. -/
def tagPlaysSpec : ChangeSpec := { name := "tagPlays", fn := fun _ => fun
  | [d] => { results := [.lit (.bool true)], args := [d] }
  | _ => none }
def tagPlaysRow : OpenClaim := { program := "ytogplebajpdmoaa", sum := "bd1e42ffd4630c2bb3ecca6d3c914fb618fc3e8908ce2c793722b00f8393f018", func := "tryst/trystlaw06.TagPlays", spec := "tagPlays", inPlace := ["math/bits.Add64", "math/bits.Sub64"], apart := false }
def TagPlaysSaid : Prop := tagPlaysRow.holds Try.pinned (OpenSpec.ofChange tagPlaysSpec)

/-- ITS FALSE NEIGHBOUR: 'it returns false'. Refute it at one input. -/
def tagPlaysWrong : ChangeSpec := { name := "tagPlays", fn := fun _ => fun
  | [d] => { results := [.lit (.bool false)], args := [d] }
  | _ => none }
def TagPlaysWrongFalsely : Prop := tagPlaysRow.holds Try.pinned (OpenSpec.ofChange tagPlaysWrong)

/-- 'trystlaw05.StreamBlocks': WHATEVER THE INPUT: true; the input reads as it did. -/
def streamBlocksSpec : ChangeSpec := { name := "streamBlocks", fn := fun _ => fun
  | [d] => { results := [.lit (.bool true)], args := [d] }
  | _ => none }
def streamBlocksRow : OpenClaim := { program := "ytogplebajpdmoaa", sum := "bd1e42ffd4630c2bb3ecca6d3c914fb618fc3e8908ce2c793722b00f8393f018", func := "tryst/trystlaw05.StreamBlocks", spec := "streamBlocks", apart := false }
def StreamBlocksSaid : Prop := streamBlocksRow.holds Try.pinned (OpenSpec.ofChange streamBlocksSpec)

/-- ITS FALSE NEIGHBOUR: 'it returns false'. Refute it at one input. -/
def streamBlocksWrong : ChangeSpec := { name := "streamBlocks", fn := fun _ => fun
  | [d] => { results := [.lit (.bool false)], args := [d] }
  | _ => none }
def StreamBlocksWrongFalsely : Prop := streamBlocksRow.holds Try.pinned (OpenSpec.ofChange streamBlocksWrong)

/-- 'trystlaw05.StreamOnce': WHATEVER THE INPUT: true; the input reads as it did. -/
def streamOnceSpec : ChangeSpec := { name := "streamOnce", fn := fun _ => fun
  | [d1, d2] => { results := [.lit (.bool true)], args := [d1, d2] }
  | _ => none }
def streamOnceRow : OpenClaim := { program := "ytogplebajpdmoaa", sum := "bd1e42ffd4630c2bb3ecca6d3c914fb618fc3e8908ce2c793722b00f8393f018", func := "tryst/trystlaw05.StreamOnce", spec := "streamOnce", apart := false }
def StreamOnceSaid : Prop := streamOnceRow.holds Try.pinned (OpenSpec.ofChange streamOnceSpec)

/-- ITS FALSE NEIGHBOUR: 'it returns false'. Refute it at one input. -/
def streamOnceWrong : ChangeSpec := { name := "streamOnce", fn := fun _ => fun
  | [d1, d2] => { results := [.lit (.bool false)], args := [d1, d2] }
  | _ => none }
def StreamOnceWrongFalsely : Prop := streamOnceRow.holds Try.pinned (OpenSpec.ofChange streamOnceWrong)

/- THE SECOND FORM. 'bulk': how many values and letters a reading holds, each counted each time it is reached (what is shared counts as often as it is met; a slice's spare places count too). A statement '..UptoSaid' is the law's where the arguments, and the package variables that the reading takes, are together of bulk at most 1048576: NARROWER than '..Said'. Prove '..Said' where nothing that the law and all that it calls make is longer than what came in: it says more and counts as full. Else prove '..UptoSaid'. A law counts once. -/
mutual
def uptoBulk {H : Type} : DataW H → Nat
  | .lit (.string bytes) => bytes.length + 1
  | .lit _ => 1
  | .nil => 1
  | .ptr d => uptoBulk d + 1
  | .slice elems spare => uptoBulkAll elems + uptoBulkAll spare + 1
  | .agg parts => uptoBulkAll parts + 1
  | .iface _ d => uptoBulk d + 1
  | .map entries => uptoBulkEntries entries + 1
  | .held _ => 1
def uptoBulkAll {H : Type} : List (DataW H) → Nat
  | [] => 0
  | d :: r => uptoBulk d + uptoBulkAll r
def uptoBulkEntries {H : Type} : List (Lit × DataW H) → Nat
  | [] => 0
  | x :: r => uptoBulkEntry x + uptoBulkEntries r
def uptoBulkEntry {H : Type} : Lit × DataW H → Nat
  | (.string bytes, d) => bytes.length + uptoBulk d + 1
  | (_, d) => uptoBulk d + 1
 end
def uptoSmall : (H : Type) → List (DataW H) → Bool := fun _ ds => decide (uptoBulkAll ds ≤ 1048576)
def OpenSpec.upto (s : _root_.Go.ChangeSpec) : _root_.Go.OpenSpec := { _root_.Go.OpenSpec.ofChange s with cond := some uptoSmall }

/-- 'trystlaw07.SealNonces', WHERE WHAT IT READS IS OF BULK AT MOST 1048576: true; the input reads as it did. -/
def sealNoncesUptoRow : OpenClaim := { program := "ytogplebajpdmoaa", sum := "bd1e42ffd4630c2bb3ecca6d3c914fb618fc3e8908ce2c793722b00f8393f018", func := "tryst/trystlaw07.SealNonces", spec := "sealNonces", inPlace := ["math/bits.Add64", "math/bits.Sub64"], apart := false, narrowed := true }
def SealNoncesUptoSaid : Prop := sealNoncesUptoRow.holds Try.pinned (OpenSpec.upto sealNoncesSpec)

/-- 'trystlaw07.SealSeals', WHERE WHAT IT READS IS OF BULK AT MOST 1048576: true; the input reads as it did. -/
def sealSealsUptoRow : OpenClaim := { program := "ytogplebajpdmoaa", sum := "bd1e42ffd4630c2bb3ecca6d3c914fb618fc3e8908ce2c793722b00f8393f018", func := "tryst/trystlaw07.SealSeals", spec := "sealSeals", inPlace := ["math/bits.Add64", "math/bits.Sub64"], apart := false, narrowed := true }
def SealSealsUptoSaid : Prop := sealSealsUptoRow.holds Try.pinned (OpenSpec.upto sealSealsSpec)

/-- 'trystlaw07.SealOpens', WHERE WHAT IT READS IS OF BULK AT MOST 1048576: true; the input reads as it did. -/
def sealOpensUptoRow : OpenClaim := { program := "ytogplebajpdmoaa", sum := "bd1e42ffd4630c2bb3ecca6d3c914fb618fc3e8908ce2c793722b00f8393f018", func := "tryst/trystlaw07.SealOpens", spec := "sealOpens", inPlace := ["math/bits.Add64", "math/bits.Sub64"], apart := false, narrowed := true }
def SealOpensUptoSaid : Prop := sealOpensUptoRow.holds Try.pinned (OpenSpec.upto sealOpensSpec)

/-- 'trystlaw07.SealBack', WHERE WHAT IT READS IS OF BULK AT MOST 1048576: true; the input reads as it did. -/
def sealBackUptoRow : OpenClaim := { program := "ytogplebajpdmoaa", sum := "bd1e42ffd4630c2bb3ecca6d3c914fb618fc3e8908ce2c793722b00f8393f018", func := "tryst/trystlaw07.SealBack", spec := "sealBack", inPlace := ["math/bits.Add64", "math/bits.Sub64"], apart := false, narrowed := true }
def SealBackUptoSaid : Prop := sealBackUptoRow.holds Try.pinned (OpenSpec.upto sealBackSpec)

/-- 'trystlaw07.SealOneForm', WHERE WHAT IT READS IS OF BULK AT MOST 1048576: true; the input reads as it did. -/
def sealOneFormUptoRow : OpenClaim := { program := "ytogplebajpdmoaa", sum := "bd1e42ffd4630c2bb3ecca6d3c914fb618fc3e8908ce2c793722b00f8393f018", func := "tryst/trystlaw07.SealOneForm", spec := "sealOneForm", inPlace := ["math/bits.Add64", "math/bits.Sub64"], apart := false, narrowed := true }
def SealOneFormUptoSaid : Prop := sealOneFormUptoRow.holds Try.pinned (OpenSpec.upto sealOneFormSpec)

/-- 'trystlaw07.SealCovers', WHERE WHAT IT READS IS OF BULK AT MOST 1048576: true; the input reads as it did. -/
def sealCoversUptoRow : OpenClaim := { program := "ytogplebajpdmoaa", sum := "bd1e42ffd4630c2bb3ecca6d3c914fb618fc3e8908ce2c793722b00f8393f018", func := "tryst/trystlaw07.SealCovers", spec := "sealCovers", inPlace := ["math/bits.Add64", "math/bits.Sub64"], apart := false, narrowed := true }
def SealCoversUptoSaid : Prop := sealCoversUptoRow.holds Try.pinned (OpenSpec.upto sealCoversSpec)

/-- 'trystlaw06.TagSums', WHERE WHAT IT READS IS OF BULK AT MOST 1048576: true; the input reads as it did. -/
def tagSumsUptoRow : OpenClaim := { program := "ytogplebajpdmoaa", sum := "bd1e42ffd4630c2bb3ecca6d3c914fb618fc3e8908ce2c793722b00f8393f018", func := "tryst/trystlaw06.TagSums", spec := "tagSums", inPlace := ["math/bits.Add64", "math/bits.Sub64"], apart := false, narrowed := true }
def TagSumsUptoSaid : Prop := tagSumsUptoRow.holds Try.pinned (OpenSpec.upto tagSumsSpec)

/-- 'trystlaw06.TagChecks', WHERE WHAT IT READS IS OF BULK AT MOST 1048576: true; the input reads as it did. -/
def tagChecksUptoRow : OpenClaim := { program := "ytogplebajpdmoaa", sum := "bd1e42ffd4630c2bb3ecca6d3c914fb618fc3e8908ce2c793722b00f8393f018", func := "tryst/trystlaw06.TagChecks", spec := "tagChecks", inPlace := ["math/bits.Add64", "math/bits.Sub64"], apart := false, narrowed := true }
def TagChecksUptoSaid : Prop := tagChecksUptoRow.holds Try.pinned (OpenSpec.upto tagChecksSpec)

/-- 'trystlaw06.TagPlays', WHERE WHAT IT READS IS OF BULK AT MOST 1048576: true; the input reads as it did. -/
def tagPlaysUptoRow : OpenClaim := { program := "ytogplebajpdmoaa", sum := "bd1e42ffd4630c2bb3ecca6d3c914fb618fc3e8908ce2c793722b00f8393f018", func := "tryst/trystlaw06.TagPlays", spec := "tagPlays", inPlace := ["math/bits.Add64", "math/bits.Sub64"], apart := false, narrowed := true }
def TagPlaysUptoSaid : Prop := tagPlaysUptoRow.holds Try.pinned (OpenSpec.upto tagPlaysSpec)

/-- 'trystlaw05.StreamBlocks', WHERE WHAT IT READS IS OF BULK AT MOST 1048576: true; the input reads as it did. -/
def streamBlocksUptoRow : OpenClaim := { program := "ytogplebajpdmoaa", sum := "bd1e42ffd4630c2bb3ecca6d3c914fb618fc3e8908ce2c793722b00f8393f018", func := "tryst/trystlaw05.StreamBlocks", spec := "streamBlocks", apart := false, narrowed := true }
def StreamBlocksUptoSaid : Prop := streamBlocksUptoRow.holds Try.pinned (OpenSpec.upto streamBlocksSpec)

/-- 'trystlaw05.StreamOnce', WHERE WHAT IT READS IS OF BULK AT MOST 1048576: true; the input reads as it did. -/
def streamOnceUptoRow : OpenClaim := { program := "ytogplebajpdmoaa", sum := "bd1e42ffd4630c2bb3ecca6d3c914fb618fc3e8908ce2c793722b00f8393f018", func := "tryst/trystlaw05.StreamOnce", spec := "streamOnce", apart := false, narrowed := true }
def StreamOnceUptoSaid : Prop := streamOnceUptoRow.holds Try.pinned (OpenSpec.upto streamOnceSpec)

end Rows
end Go.Proofs.Ytogplebajpdmoaa
