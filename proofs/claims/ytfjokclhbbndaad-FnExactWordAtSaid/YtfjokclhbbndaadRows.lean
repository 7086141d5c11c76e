/-
  No cell of these rows narrows 'for every input' (looked for: loops, veiled, ifaces, maps, wideKeys, modest, calm, conditions, laid).
  DERIVED. THE GIVEN ROWS OF THIS SEAT. 9 by the template 'for every input the law returns true; each argument reads behind the call as it read before'; 0 by the template 'total and deterministic' (their statements: YtfjokclhbbndaadTotals.lean).
  GIVEN WITH THE SEED: the statements are not yours to turn. If you find one false, say at which input.
  Laid BY PROGRAM, IN A SANDBOX (cutbox-rows.mjs): the forced cells as the released guide's own fill.sh prints them over the translation 7354bee000ffda03… (all of the seat's roots in one cut). By AI agents, Wed Nov 11 2026. No macro, syntax, notation, axiom, sorry.
-/
import Derived.Test.YtfjokclhbbndaadChecked
import GoSem.Claim
import GoSem.ClaimJoined
import GoSem.ClaimMapViews
import Derived.JoinedTies
import Derived.KernelRfl
namespace Go.Proofs.Ytfjokclhbbndaad
/- THE CELL 'sum', in the pinned program and in every row, IS THE sha256 OF THE DUMP (.gsa) THAT YtfjokclhbbndaadProg.lean LOADS. Nothing in Lean hashes anything: it is a label: what it is worth is what the hold of that sum in a sandbox is worth. -/
noncomputable def Try.pinned : Pinned := { name := "ytfjokclhbbndaad", sum := "7354bee000ffda03a19f6dd781a6b99e9ea7e8a78116b287049ff95e3c04a375", checked := Try.checked }
namespace Rows
def none {H : Type} : Left H := { results := [], args := [] }

/-- 'laws.FnExactDealPiles': WHATEVER THE INPUT: true; the input reads as it did. -/
def fnExactDealPilesSpec : ChangeSpec := { name := "fnExactDealPiles", fn := fun _ => fun
  | [d1, d2] => { results := [.lit (.bool true)], args := [d1, d2] }
  | _ => none }
def fnExactDealPilesRow : OpenClaim := { program := "ytfjokclhbbndaad", sum := "7354bee000ffda03a19f6dd781a6b99e9ea7e8a78116b287049ff95e3c04a375", func := "loop.example/g01401/laws.FnExactDealPiles", spec := "fnExactDealPiles", apart := false }
def FnExactDealPilesSaid : Prop := fnExactDealPilesRow.holds Try.pinned (OpenSpec.ofChange fnExactDealPilesSpec)

/-- ITS FALSE NEIGHBOUR: 'it returns false'. Refute it at one input. -/
def fnExactDealPilesWrong : ChangeSpec := { name := "fnExactDealPiles", fn := fun _ => fun
  | [d1, d2] => { results := [.lit (.bool false)], args := [d1, d2] }
  | _ => none }
def FnExactDealPilesWrongFalsely : Prop := fnExactDealPilesRow.holds Try.pinned (OpenSpec.ofChange fnExactDealPilesWrong)

/-- 'laws.FnExactGatherPiles': WHATEVER THE INPUT: true; the input reads as it did. -/
def fnExactGatherPilesSpec : ChangeSpec := { name := "fnExactGatherPiles", fn := fun _ => fun
  | [d1, d2] => { results := [.lit (.bool true)], args := [d1, d2] }
  | _ => none }
def fnExactGatherPilesRow : OpenClaim := { program := "ytfjokclhbbndaad", sum := "7354bee000ffda03a19f6dd781a6b99e9ea7e8a78116b287049ff95e3c04a375", func := "loop.example/g01401/laws.FnExactGatherPiles", spec := "fnExactGatherPiles", apart := false }
def FnExactGatherPilesSaid : Prop := fnExactGatherPilesRow.holds Try.pinned (OpenSpec.ofChange fnExactGatherPilesSpec)

/-- ITS FALSE NEIGHBOUR: 'it returns false'. Refute it at one input. -/
def fnExactGatherPilesWrong : ChangeSpec := { name := "fnExactGatherPiles", fn := fun _ => fun
  | [d1, d2] => { results := [.lit (.bool false)], args := [d1, d2] }
  | _ => none }
def FnExactGatherPilesWrongFalsely : Prop := fnExactGatherPilesRow.holds Try.pinned (OpenSpec.ofChange fnExactGatherPilesWrong)

/-- 'laws.FnExactDownUnder': WHATEVER THE INPUT: true; the input reads as it did. -/
def fnExactDownUnderSpec : ChangeSpec := { name := "fnExactDownUnder", fn := fun _ => fun
  | [d] => { results := [.lit (.bool true)], args := [d] }
  | _ => none }
def fnExactDownUnderRow : OpenClaim := { program := "ytfjokclhbbndaad", sum := "7354bee000ffda03a19f6dd781a6b99e9ea7e8a78116b287049ff95e3c04a375", func := "loop.example/g01401/laws.FnExactDownUnder", spec := "fnExactDownUnder", unfollowed := true, recurses := true, leaving := true, apart := false }
def FnExactDownUnderSaid : Prop := fnExactDownUnderRow.holds Try.pinned (OpenSpec.ofChange fnExactDownUnderSpec)

/-- ITS FALSE NEIGHBOUR: 'it returns false'. Refute it at one input. -/
def fnExactDownUnderWrong : ChangeSpec := { name := "fnExactDownUnder", fn := fun _ => fun
  | [d] => { results := [.lit (.bool false)], args := [d] }
  | _ => none }
def FnExactDownUnderWrongFalsely : Prop := fnExactDownUnderRow.holds Try.pinned (OpenSpec.ofChange fnExactDownUnderWrong)

/-- 'laws.FnExactBitRing': WHATEVER THE INPUT: true; the input reads as it did. -/
def fnExactBitRingSpec : ChangeSpec := { name := "fnExactBitRing", fn := fun _ => fun
  | [d] => { results := [.lit (.bool true)], args := [d] }
  | _ => none }
def fnExactBitRingRow : OpenClaim := { program := "ytfjokclhbbndaad", sum := "7354bee000ffda03a19f6dd781a6b99e9ea7e8a78116b287049ff95e3c04a375", func := "loop.example/g01401/laws.FnExactBitRing", spec := "fnExactBitRing", apart := false }
def FnExactBitRingSaid : Prop := fnExactBitRingRow.holds Try.pinned (OpenSpec.ofChange fnExactBitRingSpec)

/-- ITS FALSE NEIGHBOUR: 'it returns false'. Refute it at one input. -/
def fnExactBitRingWrong : ChangeSpec := { name := "fnExactBitRing", fn := fun _ => fun
  | [d] => { results := [.lit (.bool false)], args := [d] }
  | _ => none }
def FnExactBitRingWrongFalsely : Prop := fnExactBitRingRow.holds Try.pinned (OpenSpec.ofChange fnExactBitRingWrong)

/-- 'laws.FnExactWordAt': WHATEVER THE INPUT: true; the input reads as it did. -/
def fnExactWordAtSpec : ChangeSpec := { name := "fnExactWordAt", fn := fun _ => fun
  | [d1, d2] => { results := [.lit (.bool true)], args := [d1, d2] }
  | _ => none }
def fnExactWordAtRow : OpenClaim := { program := "ytfjokclhbbndaad", sum := "7354bee000ffda03a19f6dd781a6b99e9ea7e8a78116b287049ff95e3c04a375", func := "loop.example/g01401/laws.FnExactWordAt", spec := "fnExactWordAt", apart := false }
def FnExactWordAtSaid : Prop := fnExactWordAtRow.holds Try.pinned (OpenSpec.ofChange fnExactWordAtSpec)

/-- ITS FALSE NEIGHBOUR: 'it returns false'. Refute it at one input. -/
def fnExactWordAtWrong : ChangeSpec := { name := "fnExactWordAt", fn := fun _ => fun
  | [d1, d2] => { results := [.lit (.bool false)], args := [d1, d2] }
  | _ => none }
def FnExactWordAtWrongFalsely : Prop := fnExactWordAtRow.holds Try.pinned (OpenSpec.ofChange fnExactWordAtWrong)

/-- 'laws.FnExactIsPaired': WHATEVER THE INPUT: true; the input reads as it did. -/
def fnExactIsPairedSpec : ChangeSpec := { name := "fnExactIsPaired", fn := fun _ => fun
  | [d1, d2] => { results := [.lit (.bool true)], args := [d1, d2] }
  | _ => none }
def fnExactIsPairedRow : OpenClaim := { program := "ytfjokclhbbndaad", sum := "7354bee000ffda03a19f6dd781a6b99e9ea7e8a78116b287049ff95e3c04a375", func := "loop.example/g01401/laws.FnExactIsPaired", spec := "fnExactIsPaired", unfollowed := true, recurses := true, leaving := true, apart := false }
def FnExactIsPairedSaid : Prop := fnExactIsPairedRow.holds Try.pinned (OpenSpec.ofChange fnExactIsPairedSpec)

/-- ITS FALSE NEIGHBOUR: 'it returns false'. Refute it at one input. -/
def fnExactIsPairedWrong : ChangeSpec := { name := "fnExactIsPaired", fn := fun _ => fun
  | [d1, d2] => { results := [.lit (.bool false)], args := [d1, d2] }
  | _ => none }
def FnExactIsPairedWrongFalsely : Prop := fnExactIsPairedRow.holds Try.pinned (OpenSpec.ofChange fnExactIsPairedWrong)

/-- 'laws.FnExactDecksShared': WHATEVER THE INPUT: true; the input reads as it did. -/
def fnExactDecksSharedSpec : ChangeSpec := { name := "fnExactDecksShared", fn := fun _ => fun
  | [d1, d2, d3] => { results := [.lit (.bool true)], args := [d1, d2, d3] }
  | _ => none }
def fnExactDecksSharedRow : OpenClaim := { program := "ytfjokclhbbndaad", sum := "7354bee000ffda03a19f6dd781a6b99e9ea7e8a78116b287049ff95e3c04a375", func := "loop.example/g01401/laws.FnExactDecksShared", spec := "fnExactDecksShared", inPlace := ["(*sync.WaitGroup).Add", "internal/race.ReleaseMerge", "internal/race.Disable", "internal/race.Enable", "internal/synctest.IsInBubble", "internal/synctest.Associate[sync.WaitGroup]", "sync.fatal", "sync/atomic.OrUint64", "sync/atomic.AddUint64", "internal/race.Read", "sync/atomic.LoadUint64", "sync/atomic.StoreUint64", "internal/synctest.Disassociate[sync.WaitGroup]", "sync.runtime_Semrelease", "(*sync.WaitGroup).Done", "(*sync.WaitGroup).Wait", "internal/race.Acquire", "internal/synctest.IsAssociated[sync.WaitGroup]", "sync/atomic.CompareAndSwapUint64", "internal/race.Write", "sync.runtime_SemacquireWaitGroup"], unfollowed := true, recurses := true, leaving := true, apart := false }
def FnExactDecksSharedSaid : Prop := fnExactDecksSharedRow.holds Try.pinned (OpenSpec.ofChange fnExactDecksSharedSpec)

/-- ITS FALSE NEIGHBOUR: 'it returns false'. Refute it at one input. -/
def fnExactDecksSharedWrong : ChangeSpec := { name := "fnExactDecksShared", fn := fun _ => fun
  | [d1, d2, d3] => { results := [.lit (.bool false)], args := [d1, d2, d3] }
  | _ => none }
def FnExactDecksSharedWrongFalsely : Prop := fnExactDecksSharedRow.holds Try.pinned (OpenSpec.ofChange fnExactDecksSharedWrong)

/-- 'laws.FnOrders': WHATEVER THE INPUT: true; the input reads as it did. -/
def fnOrdersSpec : ChangeSpec := { name := "fnOrders", fn := fun _ => fun
  | [d1, d2] => { results := [.lit (.bool true)], args := [d1, d2] }
  | _ => none }
def fnOrdersRow : OpenClaim := { program := "ytfjokclhbbndaad", sum := "7354bee000ffda03a19f6dd781a6b99e9ea7e8a78116b287049ff95e3c04a375", func := "loop.example/g01401/laws.FnOrders", spec := "fnOrders", inPlace := ["(*sync.WaitGroup).Add", "internal/race.ReleaseMerge", "internal/race.Disable", "internal/race.Enable", "internal/synctest.IsInBubble", "internal/synctest.Associate[sync.WaitGroup]", "sync.fatal", "sync/atomic.OrUint64", "sync/atomic.AddUint64", "internal/race.Read", "sync/atomic.LoadUint64", "sync/atomic.StoreUint64", "internal/synctest.Disassociate[sync.WaitGroup]", "sync.runtime_Semrelease", "(*sync.WaitGroup).Done", "(*sync.WaitGroup).Wait", "internal/race.Acquire", "internal/synctest.IsAssociated[sync.WaitGroup]", "sync/atomic.CompareAndSwapUint64", "internal/race.Write", "sync.runtime_SemacquireWaitGroup"], unfollowed := true, recurses := true, leaving := true, apart := false }
def FnOrdersSaid : Prop := fnOrdersRow.holds Try.pinned (OpenSpec.ofChange fnOrdersSpec)

/-- ITS FALSE NEIGHBOUR: 'it returns false'. Refute it at one input. -/
def fnOrdersWrong : ChangeSpec := { name := "fnOrders", fn := fun _ => fun
  | [d1, d2] => { results := [.lit (.bool false)], args := [d1, d2] }
  | _ => none }
def FnOrdersWrongFalsely : Prop := fnOrdersRow.holds Try.pinned (OpenSpec.ofChange fnOrdersWrong)

/-- 'laws.FnShuffled': WHATEVER THE INPUT: true; the input reads as it did. -/
def fnShuffledSpec : ChangeSpec := { name := "fnShuffled", fn := fun _ => fun
  | [d1, d2] => { results := [.lit (.bool true)], args := [d1, d2] }
  | _ => none }
def fnShuffledRow : OpenClaim := { program := "ytfjokclhbbndaad", sum := "7354bee000ffda03a19f6dd781a6b99e9ea7e8a78116b287049ff95e3c04a375", func := "loop.example/g01401/laws.FnShuffled", spec := "fnShuffled", inPlace := ["slices.overlaps[int64]"], unfollowed := true, recurses := true, leaving := true, apart := false }
def FnShuffledSaid : Prop := fnShuffledRow.holds Try.pinned (OpenSpec.ofChange fnShuffledSpec)

/-- ITS FALSE NEIGHBOUR: 'it returns false'. Refute it at one input. -/
def fnShuffledWrong : ChangeSpec := { name := "fnShuffled", fn := fun _ => fun
  | [d1, d2] => { results := [.lit (.bool false)], args := [d1, d2] }
  | _ => none }
def FnShuffledWrongFalsely : Prop := fnShuffledRow.holds Try.pinned (OpenSpec.ofChange fnShuffledWrong)

/- THE SECOND FORM. 'bulk': how many values and letters a reading holds, each counted each time it is reached (what is shared counts as often as it is met; a slice's spare places count too). A statement '..UptoSaid' is the law's where the arguments, and the package variables that the reading takes, are together of bulk at most 1048576: NARROWER than '..Said'. Prove '..Said' where nothing that the law and all that it calls make is longer than what came in: it says more and counts as full. Else prove '..UptoSaid'. A law counts once. -/
mutual
def uptoBulk {H : Type} : DataW H → Nat
  | .lit (.string bytes) => bytes.length + 1
  | .lit _ => 1
  | .nil => 1
  | .ptr d => uptoBulk d + 1
  | .slice elems spare => uptoBulkAll elems + uptoBulkAll spare + 1
  | .agg parts => uptoBulkAll parts + 1
  | .iface _ d => uptoBulk d + 1
  | .map entries => uptoBulkEntries entries + 1
  | .held _ => 1
def uptoBulkAll {H : Type} : List (DataW H) → Nat
  | [] => 0
  | d :: r => uptoBulk d + uptoBulkAll r
def uptoBulkEntries {H : Type} : List (Lit × DataW H) → Nat
  | [] => 0
  | x :: r => uptoBulkEntry x + uptoBulkEntries r
def uptoBulkEntry {H : Type} : Lit × DataW H → Nat
  | (.string bytes, d) => bytes.length + uptoBulk d + 1
  | (_, d) => uptoBulk d + 1
 end
def uptoSmall : (H : Type) → List (DataW H) → Bool := fun _ ds => decide (uptoBulkAll ds ≤ 1048576)
def OpenSpec.upto (s : _root_.Go.ChangeSpec) : _root_.Go.OpenSpec := { _root_.Go.OpenSpec.ofChange s with cond := some uptoSmall }

/-- 'laws.FnExactDealPiles', WHERE WHAT IT READS IS OF BULK AT MOST 1048576: true; the input reads as it did. -/
def fnExactDealPilesUptoRow : OpenClaim := { program := "ytfjokclhbbndaad", sum := "7354bee000ffda03a19f6dd781a6b99e9ea7e8a78116b287049ff95e3c04a375", func := "loop.example/g01401/laws.FnExactDealPiles", spec := "fnExactDealPiles", apart := false, narrowed := true }
def FnExactDealPilesUptoSaid : Prop := fnExactDealPilesUptoRow.holds Try.pinned (OpenSpec.upto fnExactDealPilesSpec)

/-- 'laws.FnExactGatherPiles', WHERE WHAT IT READS IS OF BULK AT MOST 1048576: true; the input reads as it did. -/
def fnExactGatherPilesUptoRow : OpenClaim := { program := "ytfjokclhbbndaad", sum := "7354bee000ffda03a19f6dd781a6b99e9ea7e8a78116b287049ff95e3c04a375", func := "loop.example/g01401/laws.FnExactGatherPiles", spec := "fnExactGatherPiles", apart := false, narrowed := true }
def FnExactGatherPilesUptoSaid : Prop := fnExactGatherPilesUptoRow.holds Try.pinned (OpenSpec.upto fnExactGatherPilesSpec)

/-- 'laws.FnExactDownUnder', WHERE WHAT IT READS IS OF BULK AT MOST 1048576: true; the input reads as it did. -/
def fnExactDownUnderUptoRow : OpenClaim := { program := "ytfjokclhbbndaad", sum := "7354bee000ffda03a19f6dd781a6b99e9ea7e8a78116b287049ff95e3c04a375", func := "loop.example/g01401/laws.FnExactDownUnder", spec := "fnExactDownUnder", unfollowed := true, recurses := true, leaving := true, apart := false, narrowed := true }
def FnExactDownUnderUptoSaid : Prop := fnExactDownUnderUptoRow.holds Try.pinned (OpenSpec.upto fnExactDownUnderSpec)

/-- 'laws.FnExactBitRing', WHERE WHAT IT READS IS OF BULK AT MOST 1048576: true; the input reads as it did. -/
def fnExactBitRingUptoRow : OpenClaim := { program := "ytfjokclhbbndaad", sum := "7354bee000ffda03a19f6dd781a6b99e9ea7e8a78116b287049ff95e3c04a375", func := "loop.example/g01401/laws.FnExactBitRing", spec := "fnExactBitRing", apart := false, narrowed := true }
def FnExactBitRingUptoSaid : Prop := fnExactBitRingUptoRow.holds Try.pinned (OpenSpec.upto fnExactBitRingSpec)

/-- 'laws.FnExactWordAt', WHERE WHAT IT READS IS OF BULK AT MOST 1048576: true; the input reads as it did. -/
def fnExactWordAtUptoRow : OpenClaim := { program := "ytfjokclhbbndaad", sum := "7354bee000ffda03a19f6dd781a6b99e9ea7e8a78116b287049ff95e3c04a375", func := "loop.example/g01401/laws.FnExactWordAt", spec := "fnExactWordAt", apart := false, narrowed := true }
def FnExactWordAtUptoSaid : Prop := fnExactWordAtUptoRow.holds Try.pinned (OpenSpec.upto fnExactWordAtSpec)

/-- 'laws.FnExactIsPaired', WHERE WHAT IT READS IS OF BULK AT MOST 1048576: true; the input reads as it did. -/
def fnExactIsPairedUptoRow : OpenClaim := { program := "ytfjokclhbbndaad", sum := "7354bee000ffda03a19f6dd781a6b99e9ea7e8a78116b287049ff95e3c04a375", func := "loop.example/g01401/laws.FnExactIsPaired", spec := "fnExactIsPaired", unfollowed := true, recurses := true, leaving := true, apart := false, narrowed := true }
def FnExactIsPairedUptoSaid : Prop := fnExactIsPairedUptoRow.holds Try.pinned (OpenSpec.upto fnExactIsPairedSpec)

/-- 'laws.FnExactDecksShared', WHERE WHAT IT READS IS OF BULK AT MOST 1048576: true; the input reads as it did. -/
def fnExactDecksSharedUptoRow : OpenClaim := { program := "ytfjokclhbbndaad", sum := "7354bee000ffda03a19f6dd781a6b99e9ea7e8a78116b287049ff95e3c04a375", func := "loop.example/g01401/laws.FnExactDecksShared", spec := "fnExactDecksShared", inPlace := ["(*sync.WaitGroup).Add", "internal/race.ReleaseMerge", "internal/race.Disable", "internal/race.Enable", "internal/synctest.IsInBubble", "internal/synctest.Associate[sync.WaitGroup]", "sync.fatal", "sync/atomic.OrUint64", "sync/atomic.AddUint64", "internal/race.Read", "sync/atomic.LoadUint64", "sync/atomic.StoreUint64", "internal/synctest.Disassociate[sync.WaitGroup]", "sync.runtime_Semrelease", "(*sync.WaitGroup).Done", "(*sync.WaitGroup).Wait", "internal/race.Acquire", "internal/synctest.IsAssociated[sync.WaitGroup]", "sync/atomic.CompareAndSwapUint64", "internal/race.Write", "sync.runtime_SemacquireWaitGroup"], unfollowed := true, recurses := true, leaving := true, apart := false, narrowed := true }
def FnExactDecksSharedUptoSaid : Prop := fnExactDecksSharedUptoRow.holds Try.pinned (OpenSpec.upto fnExactDecksSharedSpec)

/-- 'laws.FnOrders', WHERE WHAT IT READS IS OF BULK AT MOST 1048576: true; the input reads as it did. -/
def fnOrdersUptoRow : OpenClaim := { program := "ytfjokclhbbndaad", sum := "7354bee000ffda03a19f6dd781a6b99e9ea7e8a78116b287049ff95e3c04a375", func := "loop.example/g01401/laws.FnOrders", spec := "fnOrders", inPlace := ["(*sync.WaitGroup).Add", "internal/race.ReleaseMerge", "internal/race.Disable", "internal/race.Enable", "internal/synctest.IsInBubble", "internal/synctest.Associate[sync.WaitGroup]", "sync.fatal", "sync/atomic.OrUint64", "sync/atomic.AddUint64", "internal/race.Read", "sync/atomic.LoadUint64", "sync/atomic.StoreUint64", "internal/synctest.Disassociate[sync.WaitGroup]", "sync.runtime_Semrelease", "(*sync.WaitGroup).Done", "(*sync.WaitGroup).Wait", "internal/race.Acquire", "internal/synctest.IsAssociated[sync.WaitGroup]", "sync/atomic.CompareAndSwapUint64", "internal/race.Write", "sync.runtime_SemacquireWaitGroup"], unfollowed := true, recurses := true, leaving := true, apart := false, narrowed := true }
def FnOrdersUptoSaid : Prop := fnOrdersUptoRow.holds Try.pinned (OpenSpec.upto fnOrdersSpec)

/-- 'laws.FnShuffled', WHERE WHAT IT READS IS OF BULK AT MOST 1048576: true; the input reads as it did. -/
def fnShuffledUptoRow : OpenClaim := { program := "ytfjokclhbbndaad", sum := "7354bee000ffda03a19f6dd781a6b99e9ea7e8a78116b287049ff95e3c04a375", func := "loop.example/g01401/laws.FnShuffled", spec := "fnShuffled", inPlace := ["slices.overlaps[int64]"], unfollowed := true, recurses := true, leaving := true, apart := false, narrowed := true }
def FnShuffledUptoSaid : Prop := fnShuffledUptoRow.holds Try.pinned (OpenSpec.upto fnShuffledSpec)

end Rows
end Go.Proofs.Ytfjokclhbbndaad
