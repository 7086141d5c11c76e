/-
  No cell of these rows narrows 'for every input' (looked for: loops, veiled, ifaces, maps, wideKeys, modest, calm, conditions, laid).
  DERIVED. THE GIVEN ROWS OF THIS SEAT. 12 by the template 'for every input the law returns true; each argument reads behind the call as it read before'; 0 by the template 'total and deterministic' (their statements: YtglmahgbdgbbpaaTotals.lean).
  GIVEN WITH THE SEED: the statements are not yours to turn. If you find one false, say at which input.
  Laid BY PROGRAM, IN A SANDBOX (cutbox-rows.mjs): the forced cells as the released guide's own fill.sh prints them over the translation eda5313739457513… (all of the seat's roots in one cut). By AI agents, Wed Nov 11 2026. No macro, syntax, notation, axiom, sorry.
-/
import Derived.Test.YtglmahgbdgbbpaaChecked
import GoSem.Claim
import GoSem.ClaimJoined
import GoSem.ClaimMapViews
import Derived.JoinedTies
import Derived.KernelRfl
namespace Go.Proofs.Ytglmahgbdgbbpaa
/- THE CELL 'sum', in the pinned program and in every row, IS THE sha256 OF THE DUMP (.gsa) THAT YtglmahgbdgbbpaaProg.lean LOADS. Nothing in Lean hashes anything: it is a label: what it is worth is what the hold of that sum in a sandbox is worth. -/
noncomputable def Try.pinned : Pinned := { name := "ytglmahgbdgbbpaa", sum := "eda531373945751383da6ec41c39496dcbb527dc64e5ec7dcba18bc8663e0ec3", checked := Try.checked }
namespace Rows
def none {H : Type} : Left H := { results := [], args := [] }

/-- 'laws.FnExactWinsTrick': WHATEVER THE INPUT: true; the input reads as it did. -/
def fnExactWinsTrickSpec : ChangeSpec := { name := "fnExactWinsTrick", fn := fun _ => fun
  | [d1, d2, d3] => { results := [.lit (.bool true)], args := [d1, d2, d3] }
  | _ => none }
def fnExactWinsTrickRow : OpenClaim := { program := "ytglmahgbdgbbpaa", sum := "eda531373945751383da6ec41c39496dcbb527dc64e5ec7dcba18bc8663e0ec3", func := "loop.example/g01401/laws.FnExactWinsTrick", spec := "fnExactWinsTrick", apart := false }
def FnExactWinsTrickSaid : Prop := fnExactWinsTrickRow.holds Try.pinned (OpenSpec.ofChange fnExactWinsTrickSpec)

/-- ITS FALSE NEIGHBOUR: 'it returns false'. Refute it at one input. -/
def fnExactWinsTrickWrong : ChangeSpec := { name := "fnExactWinsTrick", fn := fun _ => fun
  | [d1, d2, d3] => { results := [.lit (.bool false)], args := [d1, d2, d3] }
  | _ => none }
def FnExactWinsTrickWrongFalsely : Prop := fnExactWinsTrickRow.holds Try.pinned (OpenSpec.ofChange fnExactWinsTrickWrong)

/-- 'laws.FnExactAreHands': WHATEVER THE INPUT: true; the input reads as it did. -/
def fnExactAreHandsSpec : ChangeSpec := { name := "fnExactAreHands", fn := fun _ => fun
  | [d1, d2] => { results := [.lit (.bool true)], args := [d1, d2] }
  | _ => none }
def fnExactAreHandsRow : OpenClaim := { program := "ytglmahgbdgbbpaa", sum := "eda531373945751383da6ec41c39496dcbb527dc64e5ec7dcba18bc8663e0ec3", func := "loop.example/g01401/laws.FnExactAreHands", spec := "fnExactAreHands", apart := false }
def FnExactAreHandsSaid : Prop := fnExactAreHandsRow.holds Try.pinned (OpenSpec.ofChange fnExactAreHandsSpec)

/-- ITS FALSE NEIGHBOUR: 'it returns false'. Refute it at one input. -/
def fnExactAreHandsWrong : ChangeSpec := { name := "fnExactAreHands", fn := fun _ => fun
  | [d1, d2] => { results := [.lit (.bool false)], args := [d1, d2] }
  | _ => none }
def FnExactAreHandsWrongFalsely : Prop := fnExactAreHandsRow.holds Try.pinned (OpenSpec.ofChange fnExactAreHandsWrong)

/-- 'laws.FnExactLegalPlays': WHATEVER THE INPUT: true; the input reads as it did. -/
def fnExactLegalPlaysSpec : ChangeSpec := { name := "fnExactLegalPlays", fn := fun _ => fun
  | [d1, d2] => { results := [.lit (.bool true)], args := [d1, d2] }
  | _ => none }
def fnExactLegalPlaysRow : OpenClaim := { program := "ytglmahgbdgbbpaa", sum := "eda531373945751383da6ec41c39496dcbb527dc64e5ec7dcba18bc8663e0ec3", func := "loop.example/g01401/laws.FnExactLegalPlays", spec := "fnExactLegalPlays", unfollowed := true, recurses := true, apart := false }
def FnExactLegalPlaysSaid : Prop := fnExactLegalPlaysRow.holds Try.pinned (OpenSpec.ofChange fnExactLegalPlaysSpec)

/-- ITS FALSE NEIGHBOUR: 'it returns false'. Refute it at one input. -/
def fnExactLegalPlaysWrong : ChangeSpec := { name := "fnExactLegalPlays", fn := fun _ => fun
  | [d1, d2] => { results := [.lit (.bool false)], args := [d1, d2] }
  | _ => none }
def FnExactLegalPlaysWrongFalsely : Prop := fnExactLegalPlaysRow.holds Try.pinned (OpenSpec.ofChange fnExactLegalPlaysWrong)

/-- 'laws.FnExactClockDeal': WHATEVER THE INPUT: true; the input reads as it did. -/
def fnExactClockDealSpec : ChangeSpec := { name := "fnExactClockDeal", fn := fun _ => fun
  | [d1, d2] => { results := [.lit (.bool true)], args := [d1, d2] }
  | _ => none }
def fnExactClockDealRow : OpenClaim := { program := "ytglmahgbdgbbpaa", sum := "eda531373945751383da6ec41c39496dcbb527dc64e5ec7dcba18bc8663e0ec3", func := "loop.example/g01401/laws.FnExactClockDeal", spec := "fnExactClockDeal", apart := false }
def FnExactClockDealSaid : Prop := fnExactClockDealRow.holds Try.pinned (OpenSpec.ofChange fnExactClockDealSpec)

/-- ITS FALSE NEIGHBOUR: 'it returns false'. Refute it at one input. -/
def fnExactClockDealWrong : ChangeSpec := { name := "fnExactClockDeal", fn := fun _ => fun
  | [d1, d2] => { results := [.lit (.bool false)], args := [d1, d2] }
  | _ => none }
def FnExactClockDealWrongFalsely : Prop := fnExactClockDealRow.holds Try.pinned (OpenSpec.ofChange fnExactClockDealWrong)

/-- 'laws.FnExactIsTileHand': WHATEVER THE INPUT: true; the input reads as it did. -/
def fnExactIsTileHandSpec : ChangeSpec := { name := "fnExactIsTileHand", fn := fun _ => fun
  | [d] => { results := [.lit (.bool true)], args := [d] }
  | _ => none }
def fnExactIsTileHandRow : OpenClaim := { program := "ytglmahgbdgbbpaa", sum := "eda531373945751383da6ec41c39496dcbb527dc64e5ec7dcba18bc8663e0ec3", func := "loop.example/g01401/laws.FnExactIsTileHand", spec := "fnExactIsTileHand", unfollowed := true, recurses := true, apart := false }
def FnExactIsTileHandSaid : Prop := fnExactIsTileHandRow.holds Try.pinned (OpenSpec.ofChange fnExactIsTileHandSpec)

/-- ITS FALSE NEIGHBOUR: 'it returns false'. Refute it at one input. -/
def fnExactIsTileHandWrong : ChangeSpec := { name := "fnExactIsTileHand", fn := fun _ => fun
  | [d] => { results := [.lit (.bool false)], args := [d] }
  | _ => none }
def FnExactIsTileHandWrongFalsely : Prop := fnExactIsTileHandRow.holds Try.pinned (OpenSpec.ofChange fnExactIsTileHandWrong)

/-- 'laws.FnExactFullWays': WHATEVER THE INPUT: true; the input reads as it did. -/
def fnExactFullWaysSpec : ChangeSpec := { name := "fnExactFullWays", fn := fun _ => fun
  | [d] => { results := [.lit (.bool true)], args := [d] }
  | _ => none }
def fnExactFullWaysRow : OpenClaim := { program := "ytglmahgbdgbbpaa", sum := "eda531373945751383da6ec41c39496dcbb527dc64e5ec7dcba18bc8663e0ec3", func := "loop.example/g01401/laws.FnExactFullWays", spec := "fnExactFullWays", unfollowed := true, recurses := true, apart := false }
def FnExactFullWaysSaid : Prop := fnExactFullWaysRow.holds Try.pinned (OpenSpec.ofChange fnExactFullWaysSpec)

/-- ITS FALSE NEIGHBOUR: 'it returns false'. Refute it at one input. -/
def fnExactFullWaysWrong : ChangeSpec := { name := "fnExactFullWays", fn := fun _ => fun
  | [d] => { results := [.lit (.bool false)], args := [d] }
  | _ => none }
def FnExactFullWaysWrongFalsely : Prop := fnExactFullWaysRow.holds Try.pinned (OpenSpec.ofChange fnExactFullWaysWrong)

/-- 'laws.FnExactWaitsOf': WHATEVER THE INPUT: true; the input reads as it did. -/
def fnExactWaitsOfSpec : ChangeSpec := { name := "fnExactWaitsOf", fn := fun _ => fun
  | [d] => { results := [.lit (.bool true)], args := [d] }
  | _ => none }
def fnExactWaitsOfRow : OpenClaim := { program := "ytglmahgbdgbbpaa", sum := "eda531373945751383da6ec41c39496dcbb527dc64e5ec7dcba18bc8663e0ec3", func := "loop.example/g01401/laws.FnExactWaitsOf", spec := "fnExactWaitsOf", unfollowed := true, recurses := true, apart := false }
def FnExactWaitsOfSaid : Prop := fnExactWaitsOfRow.holds Try.pinned (OpenSpec.ofChange fnExactWaitsOfSpec)

/-- ITS FALSE NEIGHBOUR: 'it returns false'. Refute it at one input. -/
def fnExactWaitsOfWrong : ChangeSpec := { name := "fnExactWaitsOf", fn := fun _ => fun
  | [d] => { results := [.lit (.bool false)], args := [d] }
  | _ => none }
def FnExactWaitsOfWrongFalsely : Prop := fnExactWaitsOfRow.holds Try.pinned (OpenSpec.ofChange fnExactWaitsOfWrong)

/-- 'laws.FnExactBestDiscard': WHATEVER THE INPUT: true; the input reads as it did. -/
def fnExactBestDiscardSpec : ChangeSpec := { name := "fnExactBestDiscard", fn := fun _ => fun
  | [d] => { results := [.lit (.bool true)], args := [d] }
  | _ => none }
def fnExactBestDiscardRow : OpenClaim := { program := "ytglmahgbdgbbpaa", sum := "eda531373945751383da6ec41c39496dcbb527dc64e5ec7dcba18bc8663e0ec3", func := "loop.example/g01401/laws.FnExactBestDiscard", spec := "fnExactBestDiscard", unfollowed := true, recurses := true, apart := false }
def FnExactBestDiscardSaid : Prop := fnExactBestDiscardRow.holds Try.pinned (OpenSpec.ofChange fnExactBestDiscardSpec)

/-- ITS FALSE NEIGHBOUR: 'it returns false'. Refute it at one input. -/
def fnExactBestDiscardWrong : ChangeSpec := { name := "fnExactBestDiscard", fn := fun _ => fun
  | [d] => { results := [.lit (.bool false)], args := [d] }
  | _ => none }
def FnExactBestDiscardWrongFalsely : Prop := fnExactBestDiscardRow.holds Try.pinned (OpenSpec.ofChange fnExactBestDiscardWrong)

/-- 'laws.FnExactAreTiles': WHATEVER THE INPUT: true; the input reads as it did. -/
def fnExactAreTilesSpec : ChangeSpec := { name := "fnExactAreTiles", fn := fun _ => fun
  | [d] => { results := [.lit (.bool true)], args := [d] }
  | _ => none }
def fnExactAreTilesRow : OpenClaim := { program := "ytglmahgbdgbbpaa", sum := "eda531373945751383da6ec41c39496dcbb527dc64e5ec7dcba18bc8663e0ec3", func := "loop.example/g01401/laws.FnExactAreTiles", spec := "fnExactAreTiles", unfollowed := true, recurses := true, apart := false }
def FnExactAreTilesSaid : Prop := fnExactAreTilesRow.holds Try.pinned (OpenSpec.ofChange fnExactAreTilesSpec)

/-- ITS FALSE NEIGHBOUR: 'it returns false'. Refute it at one input. -/
def fnExactAreTilesWrong : ChangeSpec := { name := "fnExactAreTiles", fn := fun _ => fun
  | [d] => { results := [.lit (.bool false)], args := [d] }
  | _ => none }
def FnExactAreTilesWrongFalsely : Prop := fnExactAreTilesRow.holds Try.pinned (OpenSpec.ofChange fnExactAreTilesWrong)

/-- 'laws.FnExactSameTiles': WHATEVER THE INPUT: true; the input reads as it did. -/
def fnExactSameTilesSpec : ChangeSpec := { name := "fnExactSameTiles", fn := fun _ => fun
  | [d1, d2] => { results := [.lit (.bool true)], args := [d1, d2] }
  | _ => none }
def fnExactSameTilesRow : OpenClaim := { program := "ytglmahgbdgbbpaa", sum := "eda531373945751383da6ec41c39496dcbb527dc64e5ec7dcba18bc8663e0ec3", func := "loop.example/g01401/laws.FnExactSameTiles", spec := "fnExactSameTiles", apart := false }
def FnExactSameTilesSaid : Prop := fnExactSameTilesRow.holds Try.pinned (OpenSpec.ofChange fnExactSameTilesSpec)

/-- ITS FALSE NEIGHBOUR: 'it returns false'. Refute it at one input. -/
def fnExactSameTilesWrong : ChangeSpec := { name := "fnExactSameTiles", fn := fun _ => fun
  | [d1, d2] => { results := [.lit (.bool false)], args := [d1, d2] }
  | _ => none }
def FnExactSameTilesWrongFalsely : Prop := fnExactSameTilesRow.holds Try.pinned (OpenSpec.ofChange fnExactSameTilesWrong)

/-- 'laws.FnExactTakeValues': WHATEVER THE INPUT: true; the input reads as it did. -/
def fnExactTakeValuesSpec : ChangeSpec := { name := "fnExactTakeValues", fn := fun _ => fun
  | [d1, d2] => { results := [.lit (.bool true)], args := [d1, d2] }
  | _ => none }
def fnExactTakeValuesRow : OpenClaim := { program := "ytglmahgbdgbbpaa", sum := "eda531373945751383da6ec41c39496dcbb527dc64e5ec7dcba18bc8663e0ec3", func := "loop.example/g01401/laws.FnExactTakeValues", spec := "fnExactTakeValues", unfollowed := true, recurses := true, apart := false }
def FnExactTakeValuesSaid : Prop := fnExactTakeValuesRow.holds Try.pinned (OpenSpec.ofChange fnExactTakeValuesSpec)

/-- ITS FALSE NEIGHBOUR: 'it returns false'. Refute it at one input. -/
def fnExactTakeValuesWrong : ChangeSpec := { name := "fnExactTakeValues", fn := fun _ => fun
  | [d1, d2] => { results := [.lit (.bool false)], args := [d1, d2] }
  | _ => none }
def FnExactTakeValuesWrongFalsely : Prop := fnExactTakeValuesRow.holds Try.pinned (OpenSpec.ofChange fnExactTakeValuesWrong)

/-- 'laws.FnExactHeapMove': WHATEVER THE INPUT: true; the input reads as it did. -/
def fnExactHeapMoveSpec : ChangeSpec := { name := "fnExactHeapMove", fn := fun _ => fun
  | [d1, d2] => { results := [.lit (.bool true)], args := [d1, d2] }
  | _ => none }
def fnExactHeapMoveRow : OpenClaim := { program := "ytglmahgbdgbbpaa", sum := "eda531373945751383da6ec41c39496dcbb527dc64e5ec7dcba18bc8663e0ec3", func := "loop.example/g01401/laws.FnExactHeapMove", spec := "fnExactHeapMove", unfollowed := true, recurses := true, apart := false }
def FnExactHeapMoveSaid : Prop := fnExactHeapMoveRow.holds Try.pinned (OpenSpec.ofChange fnExactHeapMoveSpec)

/-- ITS FALSE NEIGHBOUR: 'it returns false'. Refute it at one input. -/
def fnExactHeapMoveWrong : ChangeSpec := { name := "fnExactHeapMove", fn := fun _ => fun
  | [d1, d2] => { results := [.lit (.bool false)], args := [d1, d2] }
  | _ => none }
def FnExactHeapMoveWrongFalsely : Prop := fnExactHeapMoveRow.holds Try.pinned (OpenSpec.ofChange fnExactHeapMoveWrong)

/- THE SECOND FORM. 'bulk': how many values and letters a reading holds, each counted each time it is reached (what is shared counts as often as it is met; a slice's spare places count too). A statement '..UptoSaid' is the law's where the arguments, and the package variables that the reading takes, are together of bulk at most 1048576: NARROWER than '..Said'. Prove '..Said' where nothing that the law and all that it calls make is longer than what came in: it says more and counts as full. Else prove '..UptoSaid'. A law counts once. -/
mutual
def uptoBulk {H : Type} : DataW H → Nat
  | .lit (.string bytes) => bytes.length + 1
  | .lit _ => 1
  | .nil => 1
  | .ptr d => uptoBulk d + 1
  | .slice elems spare => uptoBulkAll elems + uptoBulkAll spare + 1
  | .agg parts => uptoBulkAll parts + 1
  | .iface _ d => uptoBulk d + 1
  | .map entries => uptoBulkEntries entries + 1
  | .held _ => 1
def uptoBulkAll {H : Type} : List (DataW H) → Nat
  | [] => 0
  | d :: r => uptoBulk d + uptoBulkAll r
def uptoBulkEntries {H : Type} : List (Lit × DataW H) → Nat
  | [] => 0
  | x :: r => uptoBulkEntry x + uptoBulkEntries r
def uptoBulkEntry {H : Type} : Lit × DataW H → Nat
  | (.string bytes, d) => bytes.length + uptoBulk d + 1
  | (_, d) => uptoBulk d + 1
 end
def uptoSmall : (H : Type) → List (DataW H) → Bool := fun _ ds => decide (uptoBulkAll ds ≤ 1048576)
def OpenSpec.upto (s : _root_.Go.ChangeSpec) : _root_.Go.OpenSpec := { _root_.Go.OpenSpec.ofChange s with cond := some uptoSmall }

/-- 'laws.FnExactWinsTrick', WHERE WHAT IT READS IS OF BULK AT MOST 1048576: true; the input reads as it did. -/
def fnExactWinsTrickUptoRow : OpenClaim := { program := "ytglmahgbdgbbpaa", sum := "eda531373945751383da6ec41c39496dcbb527dc64e5ec7dcba18bc8663e0ec3", func := "loop.example/g01401/laws.FnExactWinsTrick", spec := "fnExactWinsTrick", apart := false, narrowed := true }
def FnExactWinsTrickUptoSaid : Prop := fnExactWinsTrickUptoRow.holds Try.pinned (OpenSpec.upto fnExactWinsTrickSpec)

/-- 'laws.FnExactAreHands', WHERE WHAT IT READS IS OF BULK AT MOST 1048576: true; the input reads as it did. -/
def fnExactAreHandsUptoRow : OpenClaim := { program := "ytglmahgbdgbbpaa", sum := "eda531373945751383da6ec41c39496dcbb527dc64e5ec7dcba18bc8663e0ec3", func := "loop.example/g01401/laws.FnExactAreHands", spec := "fnExactAreHands", apart := false, narrowed := true }
def FnExactAreHandsUptoSaid : Prop := fnExactAreHandsUptoRow.holds Try.pinned (OpenSpec.upto fnExactAreHandsSpec)

/-- 'laws.FnExactLegalPlays', WHERE WHAT IT READS IS OF BULK AT MOST 1048576: true; the input reads as it did. -/
def fnExactLegalPlaysUptoRow : OpenClaim := { program := "ytglmahgbdgbbpaa", sum := "eda531373945751383da6ec41c39496dcbb527dc64e5ec7dcba18bc8663e0ec3", func := "loop.example/g01401/laws.FnExactLegalPlays", spec := "fnExactLegalPlays", unfollowed := true, recurses := true, apart := false, narrowed := true }
def FnExactLegalPlaysUptoSaid : Prop := fnExactLegalPlaysUptoRow.holds Try.pinned (OpenSpec.upto fnExactLegalPlaysSpec)

/-- 'laws.FnExactClockDeal', WHERE WHAT IT READS IS OF BULK AT MOST 1048576: true; the input reads as it did. -/
def fnExactClockDealUptoRow : OpenClaim := { program := "ytglmahgbdgbbpaa", sum := "eda531373945751383da6ec41c39496dcbb527dc64e5ec7dcba18bc8663e0ec3", func := "loop.example/g01401/laws.FnExactClockDeal", spec := "fnExactClockDeal", apart := false, narrowed := true }
def FnExactClockDealUptoSaid : Prop := fnExactClockDealUptoRow.holds Try.pinned (OpenSpec.upto fnExactClockDealSpec)

/-- 'laws.FnExactIsTileHand', WHERE WHAT IT READS IS OF BULK AT MOST 1048576: true; the input reads as it did. -/
def fnExactIsTileHandUptoRow : OpenClaim := { program := "ytglmahgbdgbbpaa", sum := "eda531373945751383da6ec41c39496dcbb527dc64e5ec7dcba18bc8663e0ec3", func := "loop.example/g01401/laws.FnExactIsTileHand", spec := "fnExactIsTileHand", unfollowed := true, recurses := true, apart := false, narrowed := true }
def FnExactIsTileHandUptoSaid : Prop := fnExactIsTileHandUptoRow.holds Try.pinned (OpenSpec.upto fnExactIsTileHandSpec)

/-- 'laws.FnExactFullWays', WHERE WHAT IT READS IS OF BULK AT MOST 1048576: true; the input reads as it did. -/
def fnExactFullWaysUptoRow : OpenClaim := { program := "ytglmahgbdgbbpaa", sum := "eda531373945751383da6ec41c39496dcbb527dc64e5ec7dcba18bc8663e0ec3", func := "loop.example/g01401/laws.FnExactFullWays", spec := "fnExactFullWays", unfollowed := true, recurses := true, apart := false, narrowed := true }
def FnExactFullWaysUptoSaid : Prop := fnExactFullWaysUptoRow.holds Try.pinned (OpenSpec.upto fnExactFullWaysSpec)

/-- 'laws.FnExactWaitsOf', WHERE WHAT IT READS IS OF BULK AT MOST 1048576: true; the input reads as it did. -/
def fnExactWaitsOfUptoRow : OpenClaim := { program := "ytglmahgbdgbbpaa", sum := "eda531373945751383da6ec41c39496dcbb527dc64e5ec7dcba18bc8663e0ec3", func := "loop.example/g01401/laws.FnExactWaitsOf", spec := "fnExactWaitsOf", unfollowed := true, recurses := true, apart := false, narrowed := true }
def FnExactWaitsOfUptoSaid : Prop := fnExactWaitsOfUptoRow.holds Try.pinned (OpenSpec.upto fnExactWaitsOfSpec)

/-- 'laws.FnExactBestDiscard', WHERE WHAT IT READS IS OF BULK AT MOST 1048576: true; the input reads as it did. -/
def fnExactBestDiscardUptoRow : OpenClaim := { program := "ytglmahgbdgbbpaa", sum := "eda531373945751383da6ec41c39496dcbb527dc64e5ec7dcba18bc8663e0ec3", func := "loop.example/g01401/laws.FnExactBestDiscard", spec := "fnExactBestDiscard", unfollowed := true, recurses := true, apart := false, narrowed := true }
def FnExactBestDiscardUptoSaid : Prop := fnExactBestDiscardUptoRow.holds Try.pinned (OpenSpec.upto fnExactBestDiscardSpec)

/-- 'laws.FnExactAreTiles', WHERE WHAT IT READS IS OF BULK AT MOST 1048576: true; the input reads as it did. -/
def fnExactAreTilesUptoRow : OpenClaim := { program := "ytglmahgbdgbbpaa", sum := "eda531373945751383da6ec41c39496dcbb527dc64e5ec7dcba18bc8663e0ec3", func := "loop.example/g01401/laws.FnExactAreTiles", spec := "fnExactAreTiles", unfollowed := true, recurses := true, apart := false, narrowed := true }
def FnExactAreTilesUptoSaid : Prop := fnExactAreTilesUptoRow.holds Try.pinned (OpenSpec.upto fnExactAreTilesSpec)

/-- 'laws.FnExactSameTiles', WHERE WHAT IT READS IS OF BULK AT MOST 1048576: true; the input reads as it did. -/
def fnExactSameTilesUptoRow : OpenClaim := { program := "ytglmahgbdgbbpaa", sum := "eda531373945751383da6ec41c39496dcbb527dc64e5ec7dcba18bc8663e0ec3", func := "loop.example/g01401/laws.FnExactSameTiles", spec := "fnExactSameTiles", apart := false, narrowed := true }
def FnExactSameTilesUptoSaid : Prop := fnExactSameTilesUptoRow.holds Try.pinned (OpenSpec.upto fnExactSameTilesSpec)

/-- 'laws.FnExactTakeValues', WHERE WHAT IT READS IS OF BULK AT MOST 1048576: true; the input reads as it did. -/
def fnExactTakeValuesUptoRow : OpenClaim := { program := "ytglmahgbdgbbpaa", sum := "eda531373945751383da6ec41c39496dcbb527dc64e5ec7dcba18bc8663e0ec3", func := "loop.example/g01401/laws.FnExactTakeValues", spec := "fnExactTakeValues", unfollowed := true, recurses := true, apart := false, narrowed := true }
def FnExactTakeValuesUptoSaid : Prop := fnExactTakeValuesUptoRow.holds Try.pinned (OpenSpec.upto fnExactTakeValuesSpec)

/-- 'laws.FnExactHeapMove', WHERE WHAT IT READS IS OF BULK AT MOST 1048576: true; the input reads as it did. -/
def fnExactHeapMoveUptoRow : OpenClaim := { program := "ytglmahgbdgbbpaa", sum := "eda531373945751383da6ec41c39496dcbb527dc64e5ec7dcba18bc8663e0ec3", func := "loop.example/g01401/laws.FnExactHeapMove", spec := "fnExactHeapMove", unfollowed := true, recurses := true, apart := false, narrowed := true }
def FnExactHeapMoveUptoSaid : Prop := fnExactHeapMoveUptoRow.holds Try.pinned (OpenSpec.upto fnExactHeapMoveSpec)

end Rows
end Go.Proofs.Ytglmahgbdgbbpaa
