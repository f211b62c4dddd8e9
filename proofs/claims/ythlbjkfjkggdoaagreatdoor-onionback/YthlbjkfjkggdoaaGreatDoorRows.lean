/-
  NARROWER THAN 'FOR EVERY INPUT', by the rows' own cells (each row's printed sentence says how): OnionSchedules: laid · OnionWraps: laid · OnionPeels: laid · OnionReplies: laid · OnionBack: laid · OnionWorkers: laid · OnionKnown: laid · TopOnion: laid.
  DERIVED. THE GIVEN ROWS OF THIS SEAT. 8 by the template 'for every input the law returns true; each argument reads behind the call as it read before'; 0 by the template 'total and deterministic' (their statements: YthlbjkfjkggdoaaGreatDoorTotals.lean).
  GIVEN WITH THE SEED: the statements are not yours to turn. If you find one false, say at which input.
  Laid BY PROGRAM, IN A SANDBOX (cutbox-rows.mjs): the forced cells as the released guide's own fill.sh prints them over the translation 09bc2d29c055ac7a… (all of the seat's roots in one cut). By AI agents, Wed Nov 11 2026. No macro, syntax, notation, axiom, sorry.
-/
import Derived.Test.YthlbjkfjkggdoaaGreatDoorChecked
import GoSem.Claim
import GoSem.ClaimJoined
import GoSem.ClaimMapViews
import Derived.JoinedTies
import Derived.KernelRfl
namespace Go.Proofs.YthlbjkfjkggdoaaGreatDoor
/- THE CELL 'sum', in the pinned program and in every row, IS THE sha256 OF THE DUMP (.gsa) THAT YthlbjkfjkggdoaaGreatDoorProg.lean LOADS. Nothing in Lean hashes anything: it is a label: what it is worth is what the hold of that sum in a sandbox is worth. -/
noncomputable def Tryz.pinned : Pinned := { name := "ythlbjkfjkggdoaagreatdoor", sum := "09bc2d29c055ac7a0b26abe398a82a7041ff508b5fb49b308dc2a755126cfadd", checked := Tryz.checked }
namespace Rows
def none {H : Type} : Left H := { results := [], args := [] }

/- WHAT THE LISTED PACKAGE-LEVEL VARIABLES READ AS WHEN THE CALL BEGINS. Each datum BY PROGRAM (the guide's laid-datum.mjs) off the statement by which the dump's own 'gosem.cut.vars' lays the variable. In a bare row this is a premise. The card (YthlbjkfjkggdoaaGreatDoorCards.lean) ties it to the program's text. -/
def laid_tryst_digest_roundWords {H : Type} : DataW H := .agg [.lit (.int .u32 1116352408), .lit (.int .u32 1899447441), .lit (.int .u32 3049323471), .lit (.int .u32 3921009573), .lit (.int .u32 961987163), .lit (.int .u32 1508970993), .lit (.int .u32 2453635748), .lit (.int .u32 2870763221), .lit (.int .u32 3624381080), .lit (.int .u32 310598401), .lit (.int .u32 607225278), .lit (.int .u32 1426881987), .lit (.int .u32 1925078388), .lit (.int .u32 2162078206), .lit (.int .u32 2614888103), .lit (.int .u32 3248222580), .lit (.int .u32 3835390401), .lit (.int .u32 4022224774), .lit (.int .u32 264347078), .lit (.int .u32 604807628), .lit (.int .u32 770255983), .lit (.int .u32 1249150122), .lit (.int .u32 1555081692), .lit (.int .u32 1996064986), .lit (.int .u32 2554220882), .lit (.int .u32 2821834349), .lit (.int .u32 2952996808), .lit (.int .u32 3210313671), .lit (.int .u32 3336571891), .lit (.int .u32 3584528711), .lit (.int .u32 113926993), .lit (.int .u32 338241895), .lit (.int .u32 666307205), .lit (.int .u32 773529912), .lit (.int .u32 1294757372), .lit (.int .u32 1396182291), .lit (.int .u32 1695183700), .lit (.int .u32 1986661051), .lit (.int .u32 2177026350), .lit (.int .u32 2456956037), .lit (.int .u32 2730485921), .lit (.int .u32 2820302411), .lit (.int .u32 3259730800), .lit (.int .u32 3345764771), .lit (.int .u32 3516065817), .lit (.int .u32 3600352804), .lit (.int .u32 4094571909), .lit (.int .u32 275423344), .lit (.int .u32 430227734), .lit (.int .u32 506948616), .lit (.int .u32 659060556), .lit (.int .u32 883997877), .lit (.int .u32 958139571), .lit (.int .u32 1322822218), .lit (.int .u32 1537002063), .lit (.int .u32 1747873779), .lit (.int .u32 1955562222), .lit (.int .u32 2024104815), .lit (.int .u32 2227730452), .lit (.int .u32 2361852424), .lit (.int .u32 2428436474), .lit (.int .u32 2756734187), .lit (.int .u32 3204031479), .lit (.int .u32 3329325298)]

/-- 'trystlaw10.OnionSchedules': WHATEVER THE INPUT: true; the input reads as it did. -/
def onionSchedulesSpec : ChangeSpec := { name := "onionSchedules", fn := fun _ => fun
  | [d] => { results := [.lit (.bool true)], args := [d] }
  | _ => none }
def onionSchedulesRow : OpenClaim := { program := "ythlbjkfjkggdoaagreatdoor", sum := "09bc2d29c055ac7a0b26abe398a82a7041ff508b5fb49b308dc2a755126cfadd", func := "tryst/trystlaw10.OnionSchedules", spec := "onionSchedules", inPlace := ["math/bits.Add64", "math/bits.Sub64"], unfollowed := true, recurses := true, named := ["tryst/digest.roundWords"], leaving := true, apart := false, laid := [("tryst/digest.roundWords", laid_tryst_digest_roundWords)] }
def OnionSchedulesSaid : Prop := onionSchedulesRow.holds Tryz.pinned (OpenSpec.ofChange onionSchedulesSpec)

/-- ITS FALSE NEIGHBOUR: 'it returns false'. Refute it at one input. -/
def onionSchedulesWrong : ChangeSpec := { name := "onionSchedules", fn := fun _ => fun
  | [d] => { results := [.lit (.bool false)], args := [d] }
  | _ => none }
def OnionSchedulesWrongFalsely : Prop := onionSchedulesRow.holds Tryz.pinned (OpenSpec.ofChange onionSchedulesWrong)

/-- 'trystlaw10.OnionWraps': WHATEVER THE INPUT: true; the input reads as it did. -/
def onionWrapsSpec : ChangeSpec := { name := "onionWraps", fn := fun _ => fun
  | [d] => { results := [.lit (.bool true)], args := [d] }
  | _ => none }
def onionWrapsRow : OpenClaim := { program := "ythlbjkfjkggdoaagreatdoor", sum := "09bc2d29c055ac7a0b26abe398a82a7041ff508b5fb49b308dc2a755126cfadd", func := "tryst/trystlaw10.OnionWraps", spec := "onionWraps", inPlace := ["math/bits.Add64", "math/bits.Sub64"], unfollowed := true, recurses := true, named := ["tryst/digest.roundWords"], leaving := true, apart := false, laid := [("tryst/digest.roundWords", laid_tryst_digest_roundWords)] }
def OnionWrapsSaid : Prop := onionWrapsRow.holds Tryz.pinned (OpenSpec.ofChange onionWrapsSpec)

/-- ITS FALSE NEIGHBOUR: 'it returns false'. Refute it at one input. -/
def onionWrapsWrong : ChangeSpec := { name := "onionWraps", fn := fun _ => fun
  | [d] => { results := [.lit (.bool false)], args := [d] }
  | _ => none }
def OnionWrapsWrongFalsely : Prop := onionWrapsRow.holds Tryz.pinned (OpenSpec.ofChange onionWrapsWrong)

/-- 'trystlaw10.OnionPeels': WHATEVER THE INPUT: true; the input reads as it did. -/
def onionPeelsSpec : ChangeSpec := { name := "onionPeels", fn := fun _ => fun
  | [d] => { results := [.lit (.bool true)], args := [d] }
  | _ => none }
def onionPeelsRow : OpenClaim := { program := "ythlbjkfjkggdoaagreatdoor", sum := "09bc2d29c055ac7a0b26abe398a82a7041ff508b5fb49b308dc2a755126cfadd", func := "tryst/trystlaw10.OnionPeels", spec := "onionPeels", inPlace := ["math/bits.Add64", "(*sync.WaitGroup).Add", "internal/race.ReleaseMerge", "internal/race.Disable", "internal/race.Enable", "internal/synctest.IsInBubble", "internal/synctest.Associate[sync.WaitGroup]", "sync.fatal", "sync/atomic.OrUint64", "sync/atomic.AddUint64", "internal/race.Read", "sync/atomic.LoadUint64", "sync/atomic.StoreUint64", "internal/synctest.Disassociate[sync.WaitGroup]", "sync.runtime_Semrelease", "(*sync.WaitGroup).Done", "math/bits.Sub64", "(*sync.WaitGroup).Wait", "internal/race.Acquire", "internal/synctest.IsAssociated[sync.WaitGroup]", "sync/atomic.CompareAndSwapUint64", "internal/race.Write", "sync.runtime_SemacquireWaitGroup"], unfollowed := true, recurses := true, named := ["tryst/digest.roundWords"], leaving := true, apart := false, laid := [("tryst/digest.roundWords", laid_tryst_digest_roundWords)] }
def OnionPeelsSaid : Prop := onionPeelsRow.holds Tryz.pinned (OpenSpec.ofChange onionPeelsSpec)

/-- ITS FALSE NEIGHBOUR: 'it returns false'. Refute it at one input. -/
def onionPeelsWrong : ChangeSpec := { name := "onionPeels", fn := fun _ => fun
  | [d] => { results := [.lit (.bool false)], args := [d] }
  | _ => none }
def OnionPeelsWrongFalsely : Prop := onionPeelsRow.holds Tryz.pinned (OpenSpec.ofChange onionPeelsWrong)

/-- 'trystlaw10.OnionReplies': WHATEVER THE INPUT: true; the input reads as it did. -/
def onionRepliesSpec : ChangeSpec := { name := "onionReplies", fn := fun _ => fun
  | [d] => { results := [.lit (.bool true)], args := [d] }
  | _ => none }
def onionRepliesRow : OpenClaim := { program := "ythlbjkfjkggdoaagreatdoor", sum := "09bc2d29c055ac7a0b26abe398a82a7041ff508b5fb49b308dc2a755126cfadd", func := "tryst/trystlaw10.OnionReplies", spec := "onionReplies", inPlace := ["math/bits.Add64", "math/bits.Sub64"], unfollowed := true, recurses := true, named := ["tryst/digest.roundWords"], leaving := true, apart := false, laid := [("tryst/digest.roundWords", laid_tryst_digest_roundWords)] }
def OnionRepliesSaid : Prop := onionRepliesRow.holds Tryz.pinned (OpenSpec.ofChange onionRepliesSpec)

/-- ITS FALSE NEIGHBOUR: 'it returns false'. Refute it at one input. -/
def onionRepliesWrong : ChangeSpec := { name := "onionReplies", fn := fun _ => fun
  | [d] => { results := [.lit (.bool false)], args := [d] }
  | _ => none }
def OnionRepliesWrongFalsely : Prop := onionRepliesRow.holds Tryz.pinned (OpenSpec.ofChange onionRepliesWrong)

/-- 'trystlaw10.OnionBack': WHATEVER THE INPUT: true; the input reads as it did. -/
def onionBackSpec : ChangeSpec := { name := "onionBack", fn := fun _ => fun
  | [d] => { results := [.lit (.bool true)], args := [d] }
  | _ => none }
def onionBackRow : OpenClaim := { program := "ythlbjkfjkggdoaagreatdoor", sum := "09bc2d29c055ac7a0b26abe398a82a7041ff508b5fb49b308dc2a755126cfadd", func := "tryst/trystlaw10.OnionBack", spec := "onionBack", inPlace := ["math/bits.Add64", "math/bits.Sub64"], unfollowed := true, recurses := true, named := ["tryst/digest.roundWords"], leaving := true, apart := false, laid := [("tryst/digest.roundWords", laid_tryst_digest_roundWords)] }
def OnionBackSaid : Prop := onionBackRow.holds Tryz.pinned (OpenSpec.ofChange onionBackSpec)

/-- ITS FALSE NEIGHBOUR: 'it returns false'. Refute it at one input. -/
def onionBackWrong : ChangeSpec := { name := "onionBack", fn := fun _ => fun
  | [d] => { results := [.lit (.bool false)], args := [d] }
  | _ => none }
def OnionBackWrongFalsely : Prop := onionBackRow.holds Tryz.pinned (OpenSpec.ofChange onionBackWrong)

/-- 'trystlaw10.OnionWorkers': WHATEVER THE INPUT: true; the input reads as it did. -/
def onionWorkersSpec : ChangeSpec := { name := "onionWorkers", fn := fun _ => fun
  | [d1, d2] => { results := [.lit (.bool true)], args := [d1, d2] }
  | _ => none }
def onionWorkersRow : OpenClaim := { program := "ythlbjkfjkggdoaagreatdoor", sum := "09bc2d29c055ac7a0b26abe398a82a7041ff508b5fb49b308dc2a755126cfadd", func := "tryst/trystlaw10.OnionWorkers", spec := "onionWorkers", inPlace := ["math/bits.Add64", "(*sync.WaitGroup).Add", "internal/race.ReleaseMerge", "internal/race.Disable", "internal/race.Enable", "internal/synctest.IsInBubble", "internal/synctest.Associate[sync.WaitGroup]", "sync.fatal", "sync/atomic.OrUint64", "sync/atomic.AddUint64", "internal/race.Read", "sync/atomic.LoadUint64", "sync/atomic.StoreUint64", "internal/synctest.Disassociate[sync.WaitGroup]", "sync.runtime_Semrelease", "(*sync.WaitGroup).Done", "math/bits.Sub64", "(*sync.WaitGroup).Wait", "internal/race.Acquire", "internal/synctest.IsAssociated[sync.WaitGroup]", "sync/atomic.CompareAndSwapUint64", "internal/race.Write", "sync.runtime_SemacquireWaitGroup"], unfollowed := true, recurses := true, named := ["tryst/digest.roundWords"], leaving := true, apart := false, laid := [("tryst/digest.roundWords", laid_tryst_digest_roundWords)] }
def OnionWorkersSaid : Prop := onionWorkersRow.holds Tryz.pinned (OpenSpec.ofChange onionWorkersSpec)

/-- ITS FALSE NEIGHBOUR: 'it returns false'. Refute it at one input. -/
def onionWorkersWrong : ChangeSpec := { name := "onionWorkers", fn := fun _ => fun
  | [d1, d2] => { results := [.lit (.bool false)], args := [d1, d2] }
  | _ => none }
def OnionWorkersWrongFalsely : Prop := onionWorkersRow.holds Tryz.pinned (OpenSpec.ofChange onionWorkersWrong)

/-- 'trystlaw10.OnionKnown': WHATEVER THE INPUT: true; the input reads as it did. -/
def onionKnownSpec : ChangeSpec := { name := "onionKnown", fn := fun _ => fun
  | [] => { results := [.lit (.bool true)], args := [] }
  | _ => none }
def onionKnownRow : OpenClaim := { program := "ythlbjkfjkggdoaagreatdoor", sum := "09bc2d29c055ac7a0b26abe398a82a7041ff508b5fb49b308dc2a755126cfadd", func := "tryst/trystlaw10.OnionKnown", spec := "onionKnown", inPlace := ["math/bits.Add64", "math/bits.Sub64", "(*sync.WaitGroup).Add", "internal/race.ReleaseMerge", "internal/race.Disable", "internal/race.Enable", "internal/synctest.IsInBubble", "internal/synctest.Associate[sync.WaitGroup]", "sync.fatal", "sync/atomic.OrUint64", "sync/atomic.AddUint64", "internal/race.Read", "sync/atomic.LoadUint64", "sync/atomic.StoreUint64", "internal/synctest.Disassociate[sync.WaitGroup]", "sync.runtime_Semrelease", "(*sync.WaitGroup).Done", "(*sync.WaitGroup).Wait", "internal/race.Acquire", "internal/synctest.IsAssociated[sync.WaitGroup]", "sync/atomic.CompareAndSwapUint64", "internal/race.Write", "sync.runtime_SemacquireWaitGroup"], unfollowed := true, recurses := true, named := ["tryst/digest.roundWords"], leaving := true, apart := false, laid := [("tryst/digest.roundWords", laid_tryst_digest_roundWords)] }
def OnionKnownSaid : Prop := onionKnownRow.holds Tryz.pinned (OpenSpec.ofChange onionKnownSpec)

/-- ITS FALSE NEIGHBOUR: 'it returns false'. Refute it at one input. -/
def onionKnownWrong : ChangeSpec := { name := "onionKnown", fn := fun _ => fun
  | [] => { results := [.lit (.bool false)], args := [] }
  | _ => none }
def OnionKnownWrongFalsely : Prop := onionKnownRow.holds Tryz.pinned (OpenSpec.ofChange onionKnownWrong)

/-- 'trysttop.TopOnion': WHATEVER THE INPUT: true; the input reads as it did. -/
def topOnionSpec : ChangeSpec := { name := "topOnion", fn := fun _ => fun
  | [d] => { results := [.lit (.bool true)], args := [d] }
  | _ => none }
def topOnionRow : OpenClaim := { program := "ythlbjkfjkggdoaagreatdoor", sum := "09bc2d29c055ac7a0b26abe398a82a7041ff508b5fb49b308dc2a755126cfadd", func := "tryst/trysttop.TopOnion", spec := "topOnion", inPlace := ["math/bits.Add64", "math/bits.Sub64"], unfollowed := true, recurses := true, named := ["tryst/digest.roundWords"], leaving := true, apart := false, laid := [("tryst/digest.roundWords", laid_tryst_digest_roundWords)] }
def TopOnionSaid : Prop := topOnionRow.holds Tryz.pinned (OpenSpec.ofChange topOnionSpec)

/-- ITS FALSE NEIGHBOUR: 'it returns false'. Refute it at one input. -/
def topOnionWrong : ChangeSpec := { name := "topOnion", fn := fun _ => fun
  | [d] => { results := [.lit (.bool false)], args := [d] }
  | _ => none }
def TopOnionWrongFalsely : Prop := topOnionRow.holds Tryz.pinned (OpenSpec.ofChange topOnionWrong)

/- THE SECOND FORM. 'bulk': how many values and letters a reading holds, each counted each time it is reached (what is shared counts as often as it is met; a slice's spare places count too). A statement '..UptoSaid' is the law's where the arguments, and the package variables that the reading takes, are together of bulk at most 1048576: NARROWER than '..Said'. Prove '..Said' where nothing that the law and all that it calls make is longer than what came in: it says more and counts as full. Else prove '..UptoSaid'. A law counts once. -/
mutual
def uptoBulk {H : Type} : DataW H → Nat
  | .lit (.string bytes) => bytes.length + 1
  | .lit _ => 1
  | .nil => 1
  | .ptr d => uptoBulk d + 1
  | .slice elems spare => uptoBulkAll elems + uptoBulkAll spare + 1
  | .agg parts => uptoBulkAll parts + 1
  | .iface _ d => uptoBulk d + 1
  | .map entries => uptoBulkEntries entries + 1
  | .held _ => 1
def uptoBulkAll {H : Type} : List (DataW H) → Nat
  | [] => 0
  | d :: r => uptoBulk d + uptoBulkAll r
def uptoBulkEntries {H : Type} : List (Lit × DataW H) → Nat
  | [] => 0
  | x :: r => uptoBulkEntry x + uptoBulkEntries r
def uptoBulkEntry {H : Type} : Lit × DataW H → Nat
  | (.string bytes, d) => bytes.length + uptoBulk d + 1
  | (_, d) => uptoBulk d + 1
 end
def uptoSmall : (H : Type) → List (DataW H) → Bool := fun _ ds => decide (uptoBulkAll ds ≤ 1048576)
def OpenSpec.upto (s : _root_.Go.ChangeSpec) : _root_.Go.OpenSpec := { _root_.Go.OpenSpec.ofChange s with cond := some uptoSmall }

/-- 'trystlaw10.OnionSchedules', WHERE WHAT IT READS IS OF BULK AT MOST 1048576: true; the input reads as it did. -/
def onionSchedulesUptoRow : OpenClaim := { program := "ythlbjkfjkggdoaagreatdoor", sum := "09bc2d29c055ac7a0b26abe398a82a7041ff508b5fb49b308dc2a755126cfadd", func := "tryst/trystlaw10.OnionSchedules", spec := "onionSchedules", inPlace := ["math/bits.Add64", "math/bits.Sub64"], unfollowed := true, recurses := true, named := ["tryst/digest.roundWords"], leaving := true, apart := false, laid := [("tryst/digest.roundWords", laid_tryst_digest_roundWords)], narrowed := true }
def OnionSchedulesUptoSaid : Prop := onionSchedulesUptoRow.holds Tryz.pinned (OpenSpec.upto onionSchedulesSpec)

/-- 'trystlaw10.OnionWraps', WHERE WHAT IT READS IS OF BULK AT MOST 1048576: true; the input reads as it did. -/
def onionWrapsUptoRow : OpenClaim := { program := "ythlbjkfjkggdoaagreatdoor", sum := "09bc2d29c055ac7a0b26abe398a82a7041ff508b5fb49b308dc2a755126cfadd", func := "tryst/trystlaw10.OnionWraps", spec := "onionWraps", inPlace := ["math/bits.Add64", "math/bits.Sub64"], unfollowed := true, recurses := true, named := ["tryst/digest.roundWords"], leaving := true, apart := false, laid := [("tryst/digest.roundWords", laid_tryst_digest_roundWords)], narrowed := true }
def OnionWrapsUptoSaid : Prop := onionWrapsUptoRow.holds Tryz.pinned (OpenSpec.upto onionWrapsSpec)

/-- 'trystlaw10.OnionPeels', WHERE WHAT IT READS IS OF BULK AT MOST 1048576: true; the input reads as it did. -/
def onionPeelsUptoRow : OpenClaim := { program := "ythlbjkfjkggdoaagreatdoor", sum := "09bc2d29c055ac7a0b26abe398a82a7041ff508b5fb49b308dc2a755126cfadd", func := "tryst/trystlaw10.OnionPeels", spec := "onionPeels", inPlace := ["math/bits.Add64", "(*sync.WaitGroup).Add", "internal/race.ReleaseMerge", "internal/race.Disable", "internal/race.Enable", "internal/synctest.IsInBubble", "internal/synctest.Associate[sync.WaitGroup]", "sync.fatal", "sync/atomic.OrUint64", "sync/atomic.AddUint64", "internal/race.Read", "sync/atomic.LoadUint64", "sync/atomic.StoreUint64", "internal/synctest.Disassociate[sync.WaitGroup]", "sync.runtime_Semrelease", "(*sync.WaitGroup).Done", "math/bits.Sub64", "(*sync.WaitGroup).Wait", "internal/race.Acquire", "internal/synctest.IsAssociated[sync.WaitGroup]", "sync/atomic.CompareAndSwapUint64", "internal/race.Write", "sync.runtime_SemacquireWaitGroup"], unfollowed := true, recurses := true, named := ["tryst/digest.roundWords"], leaving := true, apart := false, laid := [("tryst/digest.roundWords", laid_tryst_digest_roundWords)], narrowed := true }
def OnionPeelsUptoSaid : Prop := onionPeelsUptoRow.holds Tryz.pinned (OpenSpec.upto onionPeelsSpec)

/-- 'trystlaw10.OnionReplies', WHERE WHAT IT READS IS OF BULK AT MOST 1048576: true; the input reads as it did. -/
def onionRepliesUptoRow : OpenClaim := { program := "ythlbjkfjkggdoaagreatdoor", sum := "09bc2d29c055ac7a0b26abe398a82a7041ff508b5fb49b308dc2a755126cfadd", func := "tryst/trystlaw10.OnionReplies", spec := "onionReplies", inPlace := ["math/bits.Add64", "math/bits.Sub64"], unfollowed := true, recurses := true, named := ["tryst/digest.roundWords"], leaving := true, apart := false, laid := [("tryst/digest.roundWords", laid_tryst_digest_roundWords)], narrowed := true }
def OnionRepliesUptoSaid : Prop := onionRepliesUptoRow.holds Tryz.pinned (OpenSpec.upto onionRepliesSpec)

/-- 'trystlaw10.OnionBack', WHERE WHAT IT READS IS OF BULK AT MOST 1048576: true; the input reads as it did. -/
def onionBackUptoRow : OpenClaim := { program := "ythlbjkfjkggdoaagreatdoor", sum := "09bc2d29c055ac7a0b26abe398a82a7041ff508b5fb49b308dc2a755126cfadd", func := "tryst/trystlaw10.OnionBack", spec := "onionBack", inPlace := ["math/bits.Add64", "math/bits.Sub64"], unfollowed := true, recurses := true, named := ["tryst/digest.roundWords"], leaving := true, apart := false, laid := [("tryst/digest.roundWords", laid_tryst_digest_roundWords)], narrowed := true }
def OnionBackUptoSaid : Prop := onionBackUptoRow.holds Tryz.pinned (OpenSpec.upto onionBackSpec)

/-- 'trystlaw10.OnionWorkers', WHERE WHAT IT READS IS OF BULK AT MOST 1048576: true; the input reads as it did. -/
def onionWorkersUptoRow : OpenClaim := { program := "ythlbjkfjkggdoaagreatdoor", sum := "09bc2d29c055ac7a0b26abe398a82a7041ff508b5fb49b308dc2a755126cfadd", func := "tryst/trystlaw10.OnionWorkers", spec := "onionWorkers", inPlace := ["math/bits.Add64", "(*sync.WaitGroup).Add", "internal/race.ReleaseMerge", "internal/race.Disable", "internal/race.Enable", "internal/synctest.IsInBubble", "internal/synctest.Associate[sync.WaitGroup]", "sync.fatal", "sync/atomic.OrUint64", "sync/atomic.AddUint64", "internal/race.Read", "sync/atomic.LoadUint64", "sync/atomic.StoreUint64", "internal/synctest.Disassociate[sync.WaitGroup]", "sync.runtime_Semrelease", "(*sync.WaitGroup).Done", "math/bits.Sub64", "(*sync.WaitGroup).Wait", "internal/race.Acquire", "internal/synctest.IsAssociated[sync.WaitGroup]", "sync/atomic.CompareAndSwapUint64", "internal/race.Write", "sync.runtime_SemacquireWaitGroup"], unfollowed := true, recurses := true, named := ["tryst/digest.roundWords"], leaving := true, apart := false, laid := [("tryst/digest.roundWords", laid_tryst_digest_roundWords)], narrowed := true }
def OnionWorkersUptoSaid : Prop := onionWorkersUptoRow.holds Tryz.pinned (OpenSpec.upto onionWorkersSpec)

/-- 'trystlaw10.OnionKnown', WHERE WHAT IT READS IS OF BULK AT MOST 1048576: true; the input reads as it did. -/
def onionKnownUptoRow : OpenClaim := { program := "ythlbjkfjkggdoaagreatdoor", sum := "09bc2d29c055ac7a0b26abe398a82a7041ff508b5fb49b308dc2a755126cfadd", func := "tryst/trystlaw10.OnionKnown", spec := "onionKnown", inPlace := ["math/bits.Add64", "math/bits.Sub64", "(*sync.WaitGroup).Add", "internal/race.ReleaseMerge", "internal/race.Disable", "internal/race.Enable", "internal/synctest.IsInBubble", "internal/synctest.Associate[sync.WaitGroup]", "sync.fatal", "sync/atomic.OrUint64", "sync/atomic.AddUint64", "internal/race.Read", "sync/atomic.LoadUint64", "sync/atomic.StoreUint64", "internal/synctest.Disassociate[sync.WaitGroup]", "sync.runtime_Semrelease", "(*sync.WaitGroup).Done", "(*sync.WaitGroup).Wait", "internal/race.Acquire", "internal/synctest.IsAssociated[sync.WaitGroup]", "sync/atomic.CompareAndSwapUint64", "internal/race.Write", "sync.runtime_SemacquireWaitGroup"], unfollowed := true, recurses := true, named := ["tryst/digest.roundWords"], leaving := true, apart := false, laid := [("tryst/digest.roundWords", laid_tryst_digest_roundWords)], narrowed := true }
def OnionKnownUptoSaid : Prop := onionKnownUptoRow.holds Tryz.pinned (OpenSpec.upto onionKnownSpec)

/-- 'trysttop.TopOnion', WHERE WHAT IT READS IS OF BULK AT MOST 1048576: true; the input reads as it did. -/
def topOnionUptoRow : OpenClaim := { program := "ythlbjkfjkggdoaagreatdoor", sum := "09bc2d29c055ac7a0b26abe398a82a7041ff508b5fb49b308dc2a755126cfadd", func := "tryst/trysttop.TopOnion", spec := "topOnion", inPlace := ["math/bits.Add64", "math/bits.Sub64"], unfollowed := true, recurses := true, named := ["tryst/digest.roundWords"], leaving := true, apart := false, laid := [("tryst/digest.roundWords", laid_tryst_digest_roundWords)], narrowed := true }
def TopOnionUptoSaid : Prop := topOnionUptoRow.holds Tryz.pinned (OpenSpec.upto topOnionSpec)

end Rows
end Go.Proofs.YthlbjkfjkggdoaaGreatDoor
