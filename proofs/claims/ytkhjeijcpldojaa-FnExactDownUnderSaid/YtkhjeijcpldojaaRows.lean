/-
  No cell of these rows narrows 'for every input' (looked for: loops, veiled, ifaces, maps, wideKeys, modest, calm, conditions, laid).
  DERIVED. THE GIVEN ROWS OF THIS SEAT. 9 by the template 'for every input the law returns true; each argument reads behind the call as it read before'; 0 by the template 'total and deterministic' (their statements: YtkhjeijcpldojaaTotals.lean).
  GIVEN WITH THE SEED: the statements are not yours to turn. If you find one false, say at which input.
  Laid BY PROGRAM, IN A SANDBOX (cutbox-rows.mjs): the forced cells as the released guide's own fill.sh prints them over the translation b60ab075b7e91dec… (all of the seat's roots in one cut). By AI agents, Wed Nov 11 2026. No macro, syntax, notation, axiom, sorry.
-/
import Derived.Test.YtkhjeijcpldojaaChecked
import GoSem.Claim
import GoSem.ClaimJoined
import GoSem.ClaimMapViews
import Derived.JoinedTies
import Derived.KernelRfl
namespace Go.Proofs.Ytkhjeijcpldojaa
/- THE CELL 'sum', in the pinned program and in every row, IS THE sha256 OF THE DUMP (.gsa) THAT YtkhjeijcpldojaaProg.lean LOADS. Nothing in Lean hashes anything: it is a label: what it is worth is what the hold of that sum in a sandbox is worth. -/
noncomputable def Try.pinned : Pinned := { name := "ytkhjeijcpldojaa", sum := "b60ab075b7e91dec91d904e9c6e54a09af280e04ceeeaa26b27c8191b3e0eed9", checked := Try.checked }
namespace Rows
def none {H : Type} : Left H := { results := [], args := [] }

/-- 'laws.FnExactDeckOfRank': WHATEVER THE INPUT: true; the input reads as it did. -/
def fnExactDeckOfRankSpec : ChangeSpec := { name := "fnExactDeckOfRank", fn := fun _ => fun
  | [d1, d2] => { results := [.lit (.bool true)], args := [d1, d2] }
  | _ => none }
def fnExactDeckOfRankRow : OpenClaim := { program := "ytkhjeijcpldojaa", sum := "b60ab075b7e91dec91d904e9c6e54a09af280e04ceeeaa26b27c8191b3e0eed9", func := "loop.example/g01401/laws.FnExactDeckOfRank", spec := "fnExactDeckOfRank", unfollowed := true, recurses := true, apart := false }
def FnExactDeckOfRankSaid : Prop := fnExactDeckOfRankRow.holds Try.pinned (OpenSpec.ofChange fnExactDeckOfRankSpec)

/-- ITS FALSE NEIGHBOUR: 'it returns false'. Refute it at one input. -/
def fnExactDeckOfRankWrong : ChangeSpec := { name := "fnExactDeckOfRank", fn := fun _ => fun
  | [d1, d2] => { results := [.lit (.bool false)], args := [d1, d2] }
  | _ => none }
def FnExactDeckOfRankWrongFalsely : Prop := fnExactDeckOfRankRow.holds Try.pinned (OpenSpec.ofChange fnExactDeckOfRankWrong)

/-- 'laws.FnExactDownUnder': WHATEVER THE INPUT: true; the input reads as it did. -/
def fnExactDownUnderSpec : ChangeSpec := { name := "fnExactDownUnder", fn := fun _ => fun
  | [d] => { results := [.lit (.bool true)], args := [d] }
  | _ => none }
def fnExactDownUnderRow : OpenClaim := { program := "ytkhjeijcpldojaa", sum := "b60ab075b7e91dec91d904e9c6e54a09af280e04ceeeaa26b27c8191b3e0eed9", func := "loop.example/g01401/laws.FnExactDownUnder", spec := "fnExactDownUnder", unfollowed := true, recurses := true, apart := false }
def FnExactDownUnderSaid : Prop := fnExactDownUnderRow.holds Try.pinned (OpenSpec.ofChange fnExactDownUnderSpec)

/-- ITS FALSE NEIGHBOUR: 'it returns false'. Refute it at one input. -/
def fnExactDownUnderWrong : ChangeSpec := { name := "fnExactDownUnder", fn := fun _ => fun
  | [d] => { results := [.lit (.bool false)], args := [d] }
  | _ => none }
def FnExactDownUnderWrongFalsely : Prop := fnExactDownUnderRow.holds Try.pinned (OpenSpec.ofChange fnExactDownUnderWrong)

/-- 'laws.FnExactBitRing': WHATEVER THE INPUT: true; the input reads as it did. -/
def fnExactBitRingSpec : ChangeSpec := { name := "fnExactBitRing", fn := fun _ => fun
  | [d] => { results := [.lit (.bool true)], args := [d] }
  | _ => none }
def fnExactBitRingRow : OpenClaim := { program := "ytkhjeijcpldojaa", sum := "b60ab075b7e91dec91d904e9c6e54a09af280e04ceeeaa26b27c8191b3e0eed9", func := "loop.example/g01401/laws.FnExactBitRing", spec := "fnExactBitRing", apart := false }
def FnExactBitRingSaid : Prop := fnExactBitRingRow.holds Try.pinned (OpenSpec.ofChange fnExactBitRingSpec)

/-- ITS FALSE NEIGHBOUR: 'it returns false'. Refute it at one input. -/
def fnExactBitRingWrong : ChangeSpec := { name := "fnExactBitRing", fn := fun _ => fun
  | [d] => { results := [.lit (.bool false)], args := [d] }
  | _ => none }
def FnExactBitRingWrongFalsely : Prop := fnExactBitRingRow.holds Try.pinned (OpenSpec.ofChange fnExactBitRingWrong)

/-- 'laws.FnExactShuffleOrder': WHATEVER THE INPUT: true; the input reads as it did. -/
def fnExactShuffleOrderSpec : ChangeSpec := { name := "fnExactShuffleOrder", fn := fun _ => fun
  | [d1, d2] => { results := [.lit (.bool true)], args := [d1, d2] }
  | _ => none }
def fnExactShuffleOrderRow : OpenClaim := { program := "ytkhjeijcpldojaa", sum := "b60ab075b7e91dec91d904e9c6e54a09af280e04ceeeaa26b27c8191b3e0eed9", func := "loop.example/g01401/laws.FnExactShuffleOrder", spec := "fnExactShuffleOrder", unfollowed := true, recurses := true, apart := false }
def FnExactShuffleOrderSaid : Prop := fnExactShuffleOrderRow.holds Try.pinned (OpenSpec.ofChange fnExactShuffleOrderSpec)

/-- ITS FALSE NEIGHBOUR: 'it returns false'. Refute it at one input. -/
def fnExactShuffleOrderWrong : ChangeSpec := { name := "fnExactShuffleOrder", fn := fun _ => fun
  | [d1, d2] => { results := [.lit (.bool false)], args := [d1, d2] }
  | _ => none }
def FnExactShuffleOrderWrongFalsely : Prop := fnExactShuffleOrderRow.holds Try.pinned (OpenSpec.ofChange fnExactShuffleOrderWrong)

/-- 'laws.FnExactMongeShuffle': WHATEVER THE INPUT: true; the input reads as it did. -/
def fnExactMongeShuffleSpec : ChangeSpec := { name := "fnExactMongeShuffle", fn := fun _ => fun
  | [d] => { results := [.lit (.bool true)], args := [d] }
  | _ => none }
def fnExactMongeShuffleRow : OpenClaim := { program := "ytkhjeijcpldojaa", sum := "b60ab075b7e91dec91d904e9c6e54a09af280e04ceeeaa26b27c8191b3e0eed9", func := "loop.example/g01401/laws.FnExactMongeShuffle", spec := "fnExactMongeShuffle", inPlace := ["slices.overlaps[int64]"], apart := false }
def FnExactMongeShuffleSaid : Prop := fnExactMongeShuffleRow.holds Try.pinned (OpenSpec.ofChange fnExactMongeShuffleSpec)

/-- ITS FALSE NEIGHBOUR: 'it returns false'. Refute it at one input. -/
def fnExactMongeShuffleWrong : ChangeSpec := { name := "fnExactMongeShuffle", fn := fun _ => fun
  | [d] => { results := [.lit (.bool false)], args := [d] }
  | _ => none }
def FnExactMongeShuffleWrongFalsely : Prop := fnExactMongeShuffleRow.holds Try.pinned (OpenSpec.ofChange fnExactMongeShuffleWrong)

/-- 'laws.FnExactOverhandBy': WHATEVER THE INPUT: true; the input reads as it did. -/
def fnExactOverhandBySpec : ChangeSpec := { name := "fnExactOverhandBy", fn := fun _ => fun
  | [d1, d2] => { results := [.lit (.bool true)], args := [d1, d2] }
  | _ => none }
def fnExactOverhandByRow : OpenClaim := { program := "ytkhjeijcpldojaa", sum := "b60ab075b7e91dec91d904e9c6e54a09af280e04ceeeaa26b27c8191b3e0eed9", func := "loop.example/g01401/laws.FnExactOverhandBy", spec := "fnExactOverhandBy", unfollowed := true, recurses := true, apart := false }
def FnExactOverhandBySaid : Prop := fnExactOverhandByRow.holds Try.pinned (OpenSpec.ofChange fnExactOverhandBySpec)

/-- ITS FALSE NEIGHBOUR: 'it returns false'. Refute it at one input. -/
def fnExactOverhandByWrong : ChangeSpec := { name := "fnExactOverhandBy", fn := fun _ => fun
  | [d1, d2] => { results := [.lit (.bool false)], args := [d1, d2] }
  | _ => none }
def FnExactOverhandByWrongFalsely : Prop := fnExactOverhandByRow.holds Try.pinned (OpenSpec.ofChange fnExactOverhandByWrong)

/-- 'laws.FnExactDealPiles': WHATEVER THE INPUT: true; the input reads as it did. -/
def fnExactDealPilesSpec : ChangeSpec := { name := "fnExactDealPiles", fn := fun _ => fun
  | [d1, d2] => { results := [.lit (.bool true)], args := [d1, d2] }
  | _ => none }
def fnExactDealPilesRow : OpenClaim := { program := "ytkhjeijcpldojaa", sum := "b60ab075b7e91dec91d904e9c6e54a09af280e04ceeeaa26b27c8191b3e0eed9", func := "loop.example/g01401/laws.FnExactDealPiles", spec := "fnExactDealPiles", apart := false }
def FnExactDealPilesSaid : Prop := fnExactDealPilesRow.holds Try.pinned (OpenSpec.ofChange fnExactDealPilesSpec)

/-- ITS FALSE NEIGHBOUR: 'it returns false'. Refute it at one input. -/
def fnExactDealPilesWrong : ChangeSpec := { name := "fnExactDealPiles", fn := fun _ => fun
  | [d1, d2] => { results := [.lit (.bool false)], args := [d1, d2] }
  | _ => none }
def FnExactDealPilesWrongFalsely : Prop := fnExactDealPilesRow.holds Try.pinned (OpenSpec.ofChange fnExactDealPilesWrong)

/-- 'laws.FnExactGatherPiles': WHATEVER THE INPUT: true; the input reads as it did. -/
def fnExactGatherPilesSpec : ChangeSpec := { name := "fnExactGatherPiles", fn := fun _ => fun
  | [d1, d2] => { results := [.lit (.bool true)], args := [d1, d2] }
  | _ => none }
def fnExactGatherPilesRow : OpenClaim := { program := "ytkhjeijcpldojaa", sum := "b60ab075b7e91dec91d904e9c6e54a09af280e04ceeeaa26b27c8191b3e0eed9", func := "loop.example/g01401/laws.FnExactGatherPiles", spec := "fnExactGatherPiles", apart := false }
def FnExactGatherPilesSaid : Prop := fnExactGatherPilesRow.holds Try.pinned (OpenSpec.ofChange fnExactGatherPilesSpec)

/-- ITS FALSE NEIGHBOUR: 'it returns false'. Refute it at one input. -/
def fnExactGatherPilesWrong : ChangeSpec := { name := "fnExactGatherPiles", fn := fun _ => fun
  | [d1, d2] => { results := [.lit (.bool false)], args := [d1, d2] }
  | _ => none }
def FnExactGatherPilesWrongFalsely : Prop := fnExactGatherPilesRow.holds Try.pinned (OpenSpec.ofChange fnExactGatherPilesWrong)

/-- 'laws.FnExactIsPaired': WHATEVER THE INPUT: true; the input reads as it did. -/
def fnExactIsPairedSpec : ChangeSpec := { name := "fnExactIsPaired", fn := fun _ => fun
  | [d1, d2] => { results := [.lit (.bool true)], args := [d1, d2] }
  | _ => none }
def fnExactIsPairedRow : OpenClaim := { program := "ytkhjeijcpldojaa", sum := "b60ab075b7e91dec91d904e9c6e54a09af280e04ceeeaa26b27c8191b3e0eed9", func := "loop.example/g01401/laws.FnExactIsPaired", spec := "fnExactIsPaired", unfollowed := true, recurses := true, apart := false }
def FnExactIsPairedSaid : Prop := fnExactIsPairedRow.holds Try.pinned (OpenSpec.ofChange fnExactIsPairedSpec)

/-- ITS FALSE NEIGHBOUR: 'it returns false'. Refute it at one input. -/
def fnExactIsPairedWrong : ChangeSpec := { name := "fnExactIsPaired", fn := fun _ => fun
  | [d1, d2] => { results := [.lit (.bool false)], args := [d1, d2] }
  | _ => none }
def FnExactIsPairedWrongFalsely : Prop := fnExactIsPairedRow.holds Try.pinned (OpenSpec.ofChange fnExactIsPairedWrong)

/- THE SECOND FORM. 'bulk': how many values and letters a reading holds, each counted each time it is reached (what is shared counts as often as it is met; a slice's spare places count too). A statement '..UptoSaid' is the law's where the arguments, and the package variables that the reading takes, are together of bulk at most 1048576: NARROWER than '..Said'. Prove '..Said' where nothing that the law and all that it calls make is longer than what came in: it says more and counts as full. Else prove '..UptoSaid'. A law counts once. -/
mutual
def uptoBulk {H : Type} : DataW H → Nat
  | .lit (.string bytes) => bytes.length + 1
  | .lit _ => 1
  | .nil => 1
  | .ptr d => uptoBulk d + 1
  | .slice elems spare => uptoBulkAll elems + uptoBulkAll spare + 1
  | .agg parts => uptoBulkAll parts + 1
  | .iface _ d => uptoBulk d + 1
  | .map entries => uptoBulkEntries entries + 1
  | .held _ => 1
def uptoBulkAll {H : Type} : List (DataW H) → Nat
  | [] => 0
  | d :: r => uptoBulk d + uptoBulkAll r
def uptoBulkEntries {H : Type} : List (Lit × DataW H) → Nat
  | [] => 0
  | x :: r => uptoBulkEntry x + uptoBulkEntries r
def uptoBulkEntry {H : Type} : Lit × DataW H → Nat
  | (.string bytes, d) => bytes.length + uptoBulk d + 1
  | (_, d) => uptoBulk d + 1
 end
def uptoSmall : (H : Type) → List (DataW H) → Bool := fun _ ds => decide (uptoBulkAll ds ≤ 1048576)
def OpenSpec.upto (s : _root_.Go.ChangeSpec) : _root_.Go.OpenSpec := { _root_.Go.OpenSpec.ofChange s with cond := some uptoSmall }

/-- 'laws.FnExactDeckOfRank', WHERE WHAT IT READS IS OF BULK AT MOST 1048576: true; the input reads as it did. -/
def fnExactDeckOfRankUptoRow : OpenClaim := { program := "ytkhjeijcpldojaa", sum := "b60ab075b7e91dec91d904e9c6e54a09af280e04ceeeaa26b27c8191b3e0eed9", func := "loop.example/g01401/laws.FnExactDeckOfRank", spec := "fnExactDeckOfRank", unfollowed := true, recurses := true, apart := false, narrowed := true }
def FnExactDeckOfRankUptoSaid : Prop := fnExactDeckOfRankUptoRow.holds Try.pinned (OpenSpec.upto fnExactDeckOfRankSpec)

/-- 'laws.FnExactDownUnder', WHERE WHAT IT READS IS OF BULK AT MOST 1048576: true; the input reads as it did. -/
def fnExactDownUnderUptoRow : OpenClaim := { program := "ytkhjeijcpldojaa", sum := "b60ab075b7e91dec91d904e9c6e54a09af280e04ceeeaa26b27c8191b3e0eed9", func := "loop.example/g01401/laws.FnExactDownUnder", spec := "fnExactDownUnder", unfollowed := true, recurses := true, apart := false, narrowed := true }
def FnExactDownUnderUptoSaid : Prop := fnExactDownUnderUptoRow.holds Try.pinned (OpenSpec.upto fnExactDownUnderSpec)

/-- 'laws.FnExactBitRing', WHERE WHAT IT READS IS OF BULK AT MOST 1048576: true; the input reads as it did. -/
def fnExactBitRingUptoRow : OpenClaim := { program := "ytkhjeijcpldojaa", sum := "b60ab075b7e91dec91d904e9c6e54a09af280e04ceeeaa26b27c8191b3e0eed9", func := "loop.example/g01401/laws.FnExactBitRing", spec := "fnExactBitRing", apart := false, narrowed := true }
def FnExactBitRingUptoSaid : Prop := fnExactBitRingUptoRow.holds Try.pinned (OpenSpec.upto fnExactBitRingSpec)

/-- 'laws.FnExactShuffleOrder', WHERE WHAT IT READS IS OF BULK AT MOST 1048576: true; the input reads as it did. -/
def fnExactShuffleOrderUptoRow : OpenClaim := { program := "ytkhjeijcpldojaa", sum := "b60ab075b7e91dec91d904e9c6e54a09af280e04ceeeaa26b27c8191b3e0eed9", func := "loop.example/g01401/laws.FnExactShuffleOrder", spec := "fnExactShuffleOrder", unfollowed := true, recurses := true, apart := false, narrowed := true }
def FnExactShuffleOrderUptoSaid : Prop := fnExactShuffleOrderUptoRow.holds Try.pinned (OpenSpec.upto fnExactShuffleOrderSpec)

/-- 'laws.FnExactMongeShuffle', WHERE WHAT IT READS IS OF BULK AT MOST 1048576: true; the input reads as it did. -/
def fnExactMongeShuffleUptoRow : OpenClaim := { program := "ytkhjeijcpldojaa", sum := "b60ab075b7e91dec91d904e9c6e54a09af280e04ceeeaa26b27c8191b3e0eed9", func := "loop.example/g01401/laws.FnExactMongeShuffle", spec := "fnExactMongeShuffle", inPlace := ["slices.overlaps[int64]"], apart := false, narrowed := true }
def FnExactMongeShuffleUptoSaid : Prop := fnExactMongeShuffleUptoRow.holds Try.pinned (OpenSpec.upto fnExactMongeShuffleSpec)

/-- 'laws.FnExactOverhandBy', WHERE WHAT IT READS IS OF BULK AT MOST 1048576: true; the input reads as it did. -/
def fnExactOverhandByUptoRow : OpenClaim := { program := "ytkhjeijcpldojaa", sum := "b60ab075b7e91dec91d904e9c6e54a09af280e04ceeeaa26b27c8191b3e0eed9", func := "loop.example/g01401/laws.FnExactOverhandBy", spec := "fnExactOverhandBy", unfollowed := true, recurses := true, apart := false, narrowed := true }
def FnExactOverhandByUptoSaid : Prop := fnExactOverhandByUptoRow.holds Try.pinned (OpenSpec.upto fnExactOverhandBySpec)

/-- 'laws.FnExactDealPiles', WHERE WHAT IT READS IS OF BULK AT MOST 1048576: true; the input reads as it did. -/
def fnExactDealPilesUptoRow : OpenClaim := { program := "ytkhjeijcpldojaa", sum := "b60ab075b7e91dec91d904e9c6e54a09af280e04ceeeaa26b27c8191b3e0eed9", func := "loop.example/g01401/laws.FnExactDealPiles", spec := "fnExactDealPiles", apart := false, narrowed := true }
def FnExactDealPilesUptoSaid : Prop := fnExactDealPilesUptoRow.holds Try.pinned (OpenSpec.upto fnExactDealPilesSpec)

/-- 'laws.FnExactGatherPiles', WHERE WHAT IT READS IS OF BULK AT MOST 1048576: true; the input reads as it did. -/
def fnExactGatherPilesUptoRow : OpenClaim := { program := "ytkhjeijcpldojaa", sum := "b60ab075b7e91dec91d904e9c6e54a09af280e04ceeeaa26b27c8191b3e0eed9", func := "loop.example/g01401/laws.FnExactGatherPiles", spec := "fnExactGatherPiles", apart := false, narrowed := true }
def FnExactGatherPilesUptoSaid : Prop := fnExactGatherPilesUptoRow.holds Try.pinned (OpenSpec.upto fnExactGatherPilesSpec)

/-- 'laws.FnExactIsPaired', WHERE WHAT IT READS IS OF BULK AT MOST 1048576: true; the input reads as it did. -/
def fnExactIsPairedUptoRow : OpenClaim := { program := "ytkhjeijcpldojaa", sum := "b60ab075b7e91dec91d904e9c6e54a09af280e04ceeeaa26b27c8191b3e0eed9", func := "loop.example/g01401/laws.FnExactIsPaired", spec := "fnExactIsPaired", unfollowed := true, recurses := true, apart := false, narrowed := true }
def FnExactIsPairedUptoSaid : Prop := fnExactIsPairedUptoRow.holds Try.pinned (OpenSpec.upto fnExactIsPairedSpec)

end Rows
end Go.Proofs.Ytkhjeijcpldojaa
