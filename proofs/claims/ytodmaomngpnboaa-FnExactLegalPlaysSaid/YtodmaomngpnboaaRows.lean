/-
  No cell of these rows narrows 'for every input' (looked for: loops, veiled, ifaces, maps, wideKeys, modest, calm, conditions, laid).
  DERIVED. THE GIVEN ROWS OF THIS SEAT. 12 by the template 'for every input the law returns true; each argument reads behind the call as it read before'; 0 by the template 'total and deterministic' (their statements: YtodmaomngpnboaaTotals.lean).
  GIVEN WITH THE SEED: the statements are not yours to turn. If you find one false, say at which input.
  Laid BY PROGRAM, IN A SANDBOX (cutbox-rows.mjs): the forced cells as the released guide's own fill.sh prints them over the translation 492e628e120289c4… (all of the seat's roots in one cut). By AI agents, Wed Nov 11 2026. No macro, syntax, notation, axiom, sorry.
-/
import Derived.Test.YtodmaomngpnboaaChecked
import GoSem.Claim
import GoSem.ClaimJoined
import GoSem.ClaimMapViews
import Derived.JoinedTies
import Derived.KernelRfl
namespace Go.Proofs.Ytodmaomngpnboaa
/- THE CELL 'sum', in the pinned program and in every row, IS THE sha256 OF THE DUMP (.gsa) THAT YtodmaomngpnboaaProg.lean LOADS. Nothing in Lean hashes anything: it is a label: what it is worth is what the hold of that sum in a sandbox is worth. -/
noncomputable def Try.pinned : Pinned := { name := "ytodmaomngpnboaa", sum := "492e628e120289c43fc92b161df02adc275467fcc115a5e3fbbb8276a77582e8", checked := Try.checked }
namespace Rows
def none {H : Type} : Left H := { results := [], args := [] }

/-- 'laws.FnExactLearnThrows': WHATEVER THE INPUT: true; the input reads as it did. -/
def fnExactLearnThrowsSpec : ChangeSpec := { name := "fnExactLearnThrows", fn := fun _ => fun
  | [d1, d2] => { results := [.lit (.bool true)], args := [d1, d2] }
  | _ => none }
def fnExactLearnThrowsRow : OpenClaim := { program := "ytodmaomngpnboaa", sum := "492e628e120289c43fc92b161df02adc275467fcc115a5e3fbbb8276a77582e8", func := "loop.example/g01401/laws.FnExactLearnThrows", spec := "fnExactLearnThrows", unfollowed := true, recurses := true, apart := false }
def FnExactLearnThrowsSaid : Prop := fnExactLearnThrowsRow.holds Try.pinned (OpenSpec.ofChange fnExactLearnThrowsSpec)

/-- ITS FALSE NEIGHBOUR: 'it returns false'. Refute it at one input. -/
def fnExactLearnThrowsWrong : ChangeSpec := { name := "fnExactLearnThrows", fn := fun _ => fun
  | [d1, d2] => { results := [.lit (.bool false)], args := [d1, d2] }
  | _ => none }
def FnExactLearnThrowsWrongFalsely : Prop := fnExactLearnThrowsRow.holds Try.pinned (OpenSpec.ofChange fnExactLearnThrowsWrong)

/-- 'laws.FnThrows': WHATEVER THE INPUT: true; the input reads as it did. -/
def fnThrowsSpec : ChangeSpec := { name := "fnThrows", fn := fun _ => fun
  | [d1, d2] => { results := [.lit (.bool true)], args := [d1, d2] }
  | _ => none }
def fnThrowsRow : OpenClaim := { program := "ytodmaomngpnboaa", sum := "492e628e120289c43fc92b161df02adc275467fcc115a5e3fbbb8276a77582e8", func := "loop.example/g01401/laws.FnThrows", spec := "fnThrows", unfollowed := true, recurses := true, apart := false }
def FnThrowsSaid : Prop := fnThrowsRow.holds Try.pinned (OpenSpec.ofChange fnThrowsSpec)

/-- ITS FALSE NEIGHBOUR: 'it returns false'. Refute it at one input. -/
def fnThrowsWrong : ChangeSpec := { name := "fnThrows", fn := fun _ => fun
  | [d1, d2] => { results := [.lit (.bool false)], args := [d1, d2] }
  | _ => none }
def FnThrowsWrongFalsely : Prop := fnThrowsRow.holds Try.pinned (OpenSpec.ofChange fnThrowsWrong)

/-- 'laws.FnRaces': WHATEVER THE INPUT: true; the input reads as it did. -/
def fnRacesSpec : ChangeSpec := { name := "fnRaces", fn := fun _ => fun
  | [d1, d2] => { results := [.lit (.bool true)], args := [d1, d2] }
  | _ => none }
def fnRacesRow : OpenClaim := { program := "ytodmaomngpnboaa", sum := "492e628e120289c43fc92b161df02adc275467fcc115a5e3fbbb8276a77582e8", func := "loop.example/g01401/laws.FnRaces", spec := "fnRaces", unfollowed := true, recurses := true, apart := false }
def FnRacesSaid : Prop := fnRacesRow.holds Try.pinned (OpenSpec.ofChange fnRacesSpec)

/-- ITS FALSE NEIGHBOUR: 'it returns false'. Refute it at one input. -/
def fnRacesWrong : ChangeSpec := { name := "fnRaces", fn := fun _ => fun
  | [d1, d2] => { results := [.lit (.bool false)], args := [d1, d2] }
  | _ => none }
def FnRacesWrongFalsely : Prop := fnRacesRow.holds Try.pinned (OpenSpec.ofChange fnRacesWrong)

/-- 'laws.FnHeaps': WHATEVER THE INPUT: true; the input reads as it did. -/
def fnHeapsSpec : ChangeSpec := { name := "fnHeaps", fn := fun _ => fun
  | [d1, d2] => { results := [.lit (.bool true)], args := [d1, d2] }
  | _ => none }
def fnHeapsRow : OpenClaim := { program := "ytodmaomngpnboaa", sum := "492e628e120289c43fc92b161df02adc275467fcc115a5e3fbbb8276a77582e8", func := "loop.example/g01401/laws.FnHeaps", spec := "fnHeaps", unfollowed := true, recurses := true, apart := false }
def FnHeapsSaid : Prop := fnHeapsRow.holds Try.pinned (OpenSpec.ofChange fnHeapsSpec)

/-- ITS FALSE NEIGHBOUR: 'it returns false'. Refute it at one input. -/
def fnHeapsWrong : ChangeSpec := { name := "fnHeaps", fn := fun _ => fun
  | [d1, d2] => { results := [.lit (.bool false)], args := [d1, d2] }
  | _ => none }
def FnHeapsWrongFalsely : Prop := fnHeapsRow.holds Try.pinned (OpenSpec.ofChange fnHeapsWrong)

/-- 'laws.FnExactLegalPlays': WHATEVER THE INPUT: true; the input reads as it did. -/
def fnExactLegalPlaysSpec : ChangeSpec := { name := "fnExactLegalPlays", fn := fun _ => fun
  | [d1, d2] => { results := [.lit (.bool true)], args := [d1, d2] }
  | _ => none }
def fnExactLegalPlaysRow : OpenClaim := { program := "ytodmaomngpnboaa", sum := "492e628e120289c43fc92b161df02adc275467fcc115a5e3fbbb8276a77582e8", func := "loop.example/g01401/laws.FnExactLegalPlays", spec := "fnExactLegalPlays", unfollowed := true, recurses := true, apart := false }
def FnExactLegalPlaysSaid : Prop := fnExactLegalPlaysRow.holds Try.pinned (OpenSpec.ofChange fnExactLegalPlaysSpec)

/-- ITS FALSE NEIGHBOUR: 'it returns false'. Refute it at one input. -/
def fnExactLegalPlaysWrong : ChangeSpec := { name := "fnExactLegalPlays", fn := fun _ => fun
  | [d1, d2] => { results := [.lit (.bool false)], args := [d1, d2] }
  | _ => none }
def FnExactLegalPlaysWrongFalsely : Prop := fnExactLegalPlaysRow.holds Try.pinned (OpenSpec.ofChange fnExactLegalPlaysWrong)

/-- 'laws.FnExactDealPiles': WHATEVER THE INPUT: true; the input reads as it did. -/
def fnExactDealPilesSpec : ChangeSpec := { name := "fnExactDealPiles", fn := fun _ => fun
  | [d1, d2] => { results := [.lit (.bool true)], args := [d1, d2] }
  | _ => none }
def fnExactDealPilesRow : OpenClaim := { program := "ytodmaomngpnboaa", sum := "492e628e120289c43fc92b161df02adc275467fcc115a5e3fbbb8276a77582e8", func := "loop.example/g01401/laws.FnExactDealPiles", spec := "fnExactDealPiles", apart := false }
def FnExactDealPilesSaid : Prop := fnExactDealPilesRow.holds Try.pinned (OpenSpec.ofChange fnExactDealPilesSpec)

/-- ITS FALSE NEIGHBOUR: 'it returns false'. Refute it at one input. -/
def fnExactDealPilesWrong : ChangeSpec := { name := "fnExactDealPiles", fn := fun _ => fun
  | [d1, d2] => { results := [.lit (.bool false)], args := [d1, d2] }
  | _ => none }
def FnExactDealPilesWrongFalsely : Prop := fnExactDealPilesRow.holds Try.pinned (OpenSpec.ofChange fnExactDealPilesWrong)

/-- 'laws.FnExactGatherPiles': WHATEVER THE INPUT: true; the input reads as it did. -/
def fnExactGatherPilesSpec : ChangeSpec := { name := "fnExactGatherPiles", fn := fun _ => fun
  | [d1, d2] => { results := [.lit (.bool true)], args := [d1, d2] }
  | _ => none }
def fnExactGatherPilesRow : OpenClaim := { program := "ytodmaomngpnboaa", sum := "492e628e120289c43fc92b161df02adc275467fcc115a5e3fbbb8276a77582e8", func := "loop.example/g01401/laws.FnExactGatherPiles", spec := "fnExactGatherPiles", apart := false }
def FnExactGatherPilesSaid : Prop := fnExactGatherPilesRow.holds Try.pinned (OpenSpec.ofChange fnExactGatherPilesSpec)

/-- ITS FALSE NEIGHBOUR: 'it returns false'. Refute it at one input. -/
def fnExactGatherPilesWrong : ChangeSpec := { name := "fnExactGatherPiles", fn := fun _ => fun
  | [d1, d2] => { results := [.lit (.bool false)], args := [d1, d2] }
  | _ => none }
def FnExactGatherPilesWrongFalsely : Prop := fnExactGatherPilesRow.holds Try.pinned (OpenSpec.ofChange fnExactGatherPilesWrong)

/-- 'laws.FnExactOverhandBy': WHATEVER THE INPUT: true; the input reads as it did. -/
def fnExactOverhandBySpec : ChangeSpec := { name := "fnExactOverhandBy", fn := fun _ => fun
  | [d1, d2] => { results := [.lit (.bool true)], args := [d1, d2] }
  | _ => none }
def fnExactOverhandByRow : OpenClaim := { program := "ytodmaomngpnboaa", sum := "492e628e120289c43fc92b161df02adc275467fcc115a5e3fbbb8276a77582e8", func := "loop.example/g01401/laws.FnExactOverhandBy", spec := "fnExactOverhandBy", unfollowed := true, recurses := true, apart := false }
def FnExactOverhandBySaid : Prop := fnExactOverhandByRow.holds Try.pinned (OpenSpec.ofChange fnExactOverhandBySpec)

/-- ITS FALSE NEIGHBOUR: 'it returns false'. Refute it at one input. -/
def fnExactOverhandByWrong : ChangeSpec := { name := "fnExactOverhandBy", fn := fun _ => fun
  | [d1, d2] => { results := [.lit (.bool false)], args := [d1, d2] }
  | _ => none }
def FnExactOverhandByWrongFalsely : Prop := fnExactOverhandByRow.holds Try.pinned (OpenSpec.ofChange fnExactOverhandByWrong)

/-- 'laws.FnExactKindOf': WHATEVER THE INPUT: true; the input reads as it did. -/
def fnExactKindOfSpec : ChangeSpec := { name := "fnExactKindOf", fn := fun _ => fun
  | [d] => { results := [.lit (.bool true)], args := [d] }
  | _ => none }
def fnExactKindOfRow : OpenClaim := { program := "ytodmaomngpnboaa", sum := "492e628e120289c43fc92b161df02adc275467fcc115a5e3fbbb8276a77582e8", func := "loop.example/g01401/laws.FnExactKindOf", spec := "fnExactKindOf", unfollowed := true, recurses := true, apart := false }
def FnExactKindOfSaid : Prop := fnExactKindOfRow.holds Try.pinned (OpenSpec.ofChange fnExactKindOfSpec)

/-- ITS FALSE NEIGHBOUR: 'it returns false'. Refute it at one input. -/
def fnExactKindOfWrong : ChangeSpec := { name := "fnExactKindOf", fn := fun _ => fun
  | [d] => { results := [.lit (.bool false)], args := [d] }
  | _ => none }
def FnExactKindOfWrongFalsely : Prop := fnExactKindOfRow.holds Try.pinned (OpenSpec.ofChange fnExactKindOfWrong)

/-- 'laws.FnExactValueOf': WHATEVER THE INPUT: true; the input reads as it did. -/
def fnExactValueOfSpec : ChangeSpec := { name := "fnExactValueOf", fn := fun _ => fun
  | [d] => { results := [.lit (.bool true)], args := [d] }
  | _ => none }
def fnExactValueOfRow : OpenClaim := { program := "ytodmaomngpnboaa", sum := "492e628e120289c43fc92b161df02adc275467fcc115a5e3fbbb8276a77582e8", func := "loop.example/g01401/laws.FnExactValueOf", spec := "fnExactValueOf", unfollowed := true, recurses := true, apart := false }
def FnExactValueOfSaid : Prop := fnExactValueOfRow.holds Try.pinned (OpenSpec.ofChange fnExactValueOfSpec)

/-- ITS FALSE NEIGHBOUR: 'it returns false'. Refute it at one input. -/
def fnExactValueOfWrong : ChangeSpec := { name := "fnExactValueOf", fn := fun _ => fun
  | [d] => { results := [.lit (.bool false)], args := [d] }
  | _ => none }
def FnExactValueOfWrongFalsely : Prop := fnExactValueOfRow.holds Try.pinned (OpenSpec.ofChange fnExactValueOfWrong)

/-- 'laws.FnExactKnockChances': WHATEVER THE INPUT: true; the input reads as it did. -/
def fnExactKnockChancesSpec : ChangeSpec := { name := "fnExactKnockChances", fn := fun _ => fun
  | [d] => { results := [.lit (.bool true)], args := [d] }
  | _ => none }
def fnExactKnockChancesRow : OpenClaim := { program := "ytodmaomngpnboaa", sum := "492e628e120289c43fc92b161df02adc275467fcc115a5e3fbbb8276a77582e8", func := "loop.example/g01401/laws.FnExactKnockChances", spec := "fnExactKnockChances", inPlace := ["math.Float64bits", "math.Float64frombits"], unfollowed := true, recurses := true, apart := false }
def FnExactKnockChancesSaid : Prop := fnExactKnockChancesRow.holds Try.pinned (OpenSpec.ofChange fnExactKnockChancesSpec)

/-- ITS FALSE NEIGHBOUR: 'it returns false'. Refute it at one input. -/
def fnExactKnockChancesWrong : ChangeSpec := { name := "fnExactKnockChances", fn := fun _ => fun
  | [d] => { results := [.lit (.bool false)], args := [d] }
  | _ => none }
def FnExactKnockChancesWrongFalsely : Prop := fnExactKnockChancesRow.holds Try.pinned (OpenSpec.ofChange fnExactKnockChancesWrong)

/-- 'laws.FnExactShuffleOrder': WHATEVER THE INPUT: true; the input reads as it did. -/
def fnExactShuffleOrderSpec : ChangeSpec := { name := "fnExactShuffleOrder", fn := fun _ => fun
  | [d1, d2] => { results := [.lit (.bool true)], args := [d1, d2] }
  | _ => none }
def fnExactShuffleOrderRow : OpenClaim := { program := "ytodmaomngpnboaa", sum := "492e628e120289c43fc92b161df02adc275467fcc115a5e3fbbb8276a77582e8", func := "loop.example/g01401/laws.FnExactShuffleOrder", spec := "fnExactShuffleOrder", unfollowed := true, recurses := true, apart := false }
def FnExactShuffleOrderSaid : Prop := fnExactShuffleOrderRow.holds Try.pinned (OpenSpec.ofChange fnExactShuffleOrderSpec)

/-- ITS FALSE NEIGHBOUR: 'it returns false'. Refute it at one input. -/
def fnExactShuffleOrderWrong : ChangeSpec := { name := "fnExactShuffleOrder", fn := fun _ => fun
  | [d1, d2] => { results := [.lit (.bool false)], args := [d1, d2] }
  | _ => none }
def FnExactShuffleOrderWrongFalsely : Prop := fnExactShuffleOrderRow.holds Try.pinned (OpenSpec.ofChange fnExactShuffleOrderWrong)

/- THE SECOND FORM. 'bulk': how many values and letters a reading holds, each counted each time it is reached (what is shared counts as often as it is met; a slice's spare places count too). A statement '..UptoSaid' is the law's where the arguments, and the package variables that the reading takes, are together of bulk at most 1048576: NARROWER than '..Said'. Prove '..Said' where nothing that the law and all that it calls make is longer than what came in: it says more and counts as full. Else prove '..UptoSaid'. A law counts once. -/
mutual
def uptoBulk {H : Type} : DataW H → Nat
  | .lit (.string bytes) => bytes.length + 1
  | .lit _ => 1
  | .nil => 1
  | .ptr d => uptoBulk d + 1
  | .slice elems spare => uptoBulkAll elems + uptoBulkAll spare + 1
  | .agg parts => uptoBulkAll parts + 1
  | .iface _ d => uptoBulk d + 1
  | .map entries => uptoBulkEntries entries + 1
  | .held _ => 1
def uptoBulkAll {H : Type} : List (DataW H) → Nat
  | [] => 0
  | d :: r => uptoBulk d + uptoBulkAll r
def uptoBulkEntries {H : Type} : List (Lit × DataW H) → Nat
  | [] => 0
  | x :: r => uptoBulkEntry x + uptoBulkEntries r
def uptoBulkEntry {H : Type} : Lit × DataW H → Nat
  | (.string bytes, d) => bytes.length + uptoBulk d + 1
  | (_, d) => uptoBulk d + 1
 end
def uptoSmall : (H : Type) → List (DataW H) → Bool := fun _ ds => decide (uptoBulkAll ds ≤ 1048576)
def OpenSpec.upto (s : _root_.Go.ChangeSpec) : _root_.Go.OpenSpec := { _root_.Go.OpenSpec.ofChange s with cond := some uptoSmall }

/-- 'laws.FnExactLearnThrows', WHERE WHAT IT READS IS OF BULK AT MOST 1048576: true; the input reads as it did. -/
def fnExactLearnThrowsUptoRow : OpenClaim := { program := "ytodmaomngpnboaa", sum := "492e628e120289c43fc92b161df02adc275467fcc115a5e3fbbb8276a77582e8", func := "loop.example/g01401/laws.FnExactLearnThrows", spec := "fnExactLearnThrows", unfollowed := true, recurses := true, apart := false, narrowed := true }
def FnExactLearnThrowsUptoSaid : Prop := fnExactLearnThrowsUptoRow.holds Try.pinned (OpenSpec.upto fnExactLearnThrowsSpec)

/-- 'laws.FnThrows', WHERE WHAT IT READS IS OF BULK AT MOST 1048576: true; the input reads as it did. -/
def fnThrowsUptoRow : OpenClaim := { program := "ytodmaomngpnboaa", sum := "492e628e120289c43fc92b161df02adc275467fcc115a5e3fbbb8276a77582e8", func := "loop.example/g01401/laws.FnThrows", spec := "fnThrows", unfollowed := true, recurses := true, apart := false, narrowed := true }
def FnThrowsUptoSaid : Prop := fnThrowsUptoRow.holds Try.pinned (OpenSpec.upto fnThrowsSpec)

/-- 'laws.FnRaces', WHERE WHAT IT READS IS OF BULK AT MOST 1048576: true; the input reads as it did. -/
def fnRacesUptoRow : OpenClaim := { program := "ytodmaomngpnboaa", sum := "492e628e120289c43fc92b161df02adc275467fcc115a5e3fbbb8276a77582e8", func := "loop.example/g01401/laws.FnRaces", spec := "fnRaces", unfollowed := true, recurses := true, apart := false, narrowed := true }
def FnRacesUptoSaid : Prop := fnRacesUptoRow.holds Try.pinned (OpenSpec.upto fnRacesSpec)

/-- 'laws.FnHeaps', WHERE WHAT IT READS IS OF BULK AT MOST 1048576: true; the input reads as it did. -/
def fnHeapsUptoRow : OpenClaim := { program := "ytodmaomngpnboaa", sum := "492e628e120289c43fc92b161df02adc275467fcc115a5e3fbbb8276a77582e8", func := "loop.example/g01401/laws.FnHeaps", spec := "fnHeaps", unfollowed := true, recurses := true, apart := false, narrowed := true }
def FnHeapsUptoSaid : Prop := fnHeapsUptoRow.holds Try.pinned (OpenSpec.upto fnHeapsSpec)

/-- 'laws.FnExactLegalPlays', WHERE WHAT IT READS IS OF BULK AT MOST 1048576: true; the input reads as it did. -/
def fnExactLegalPlaysUptoRow : OpenClaim := { program := "ytodmaomngpnboaa", sum := "492e628e120289c43fc92b161df02adc275467fcc115a5e3fbbb8276a77582e8", func := "loop.example/g01401/laws.FnExactLegalPlays", spec := "fnExactLegalPlays", unfollowed := true, recurses := true, apart := false, narrowed := true }
def FnExactLegalPlaysUptoSaid : Prop := fnExactLegalPlaysUptoRow.holds Try.pinned (OpenSpec.upto fnExactLegalPlaysSpec)

/-- 'laws.FnExactDealPiles', WHERE WHAT IT READS IS OF BULK AT MOST 1048576: true; the input reads as it did. -/
def fnExactDealPilesUptoRow : OpenClaim := { program := "ytodmaomngpnboaa", sum := "492e628e120289c43fc92b161df02adc275467fcc115a5e3fbbb8276a77582e8", func := "loop.example/g01401/laws.FnExactDealPiles", spec := "fnExactDealPiles", apart := false, narrowed := true }
def FnExactDealPilesUptoSaid : Prop := fnExactDealPilesUptoRow.holds Try.pinned (OpenSpec.upto fnExactDealPilesSpec)

/-- 'laws.FnExactGatherPiles', WHERE WHAT IT READS IS OF BULK AT MOST 1048576: true; the input reads as it did. -/
def fnExactGatherPilesUptoRow : OpenClaim := { program := "ytodmaomngpnboaa", sum := "492e628e120289c43fc92b161df02adc275467fcc115a5e3fbbb8276a77582e8", func := "loop.example/g01401/laws.FnExactGatherPiles", spec := "fnExactGatherPiles", apart := false, narrowed := true }
def FnExactGatherPilesUptoSaid : Prop := fnExactGatherPilesUptoRow.holds Try.pinned (OpenSpec.upto fnExactGatherPilesSpec)

/-- 'laws.FnExactOverhandBy', WHERE WHAT IT READS IS OF BULK AT MOST 1048576: true; the input reads as it did. -/
def fnExactOverhandByUptoRow : OpenClaim := { program := "ytodmaomngpnboaa", sum := "492e628e120289c43fc92b161df02adc275467fcc115a5e3fbbb8276a77582e8", func := "loop.example/g01401/laws.FnExactOverhandBy", spec := "fnExactOverhandBy", unfollowed := true, recurses := true, apart := false, narrowed := true }
def FnExactOverhandByUptoSaid : Prop := fnExactOverhandByUptoRow.holds Try.pinned (OpenSpec.upto fnExactOverhandBySpec)

/-- 'laws.FnExactKindOf', WHERE WHAT IT READS IS OF BULK AT MOST 1048576: true; the input reads as it did. -/
def fnExactKindOfUptoRow : OpenClaim := { program := "ytodmaomngpnboaa", sum := "492e628e120289c43fc92b161df02adc275467fcc115a5e3fbbb8276a77582e8", func := "loop.example/g01401/laws.FnExactKindOf", spec := "fnExactKindOf", unfollowed := true, recurses := true, apart := false, narrowed := true }
def FnExactKindOfUptoSaid : Prop := fnExactKindOfUptoRow.holds Try.pinned (OpenSpec.upto fnExactKindOfSpec)

/-- 'laws.FnExactValueOf', WHERE WHAT IT READS IS OF BULK AT MOST 1048576: true; the input reads as it did. -/
def fnExactValueOfUptoRow : OpenClaim := { program := "ytodmaomngpnboaa", sum := "492e628e120289c43fc92b161df02adc275467fcc115a5e3fbbb8276a77582e8", func := "loop.example/g01401/laws.FnExactValueOf", spec := "fnExactValueOf", unfollowed := true, recurses := true, apart := false, narrowed := true }
def FnExactValueOfUptoSaid : Prop := fnExactValueOfUptoRow.holds Try.pinned (OpenSpec.upto fnExactValueOfSpec)

/-- 'laws.FnExactKnockChances', WHERE WHAT IT READS IS OF BULK AT MOST 1048576: true; the input reads as it did. -/
def fnExactKnockChancesUptoRow : OpenClaim := { program := "ytodmaomngpnboaa", sum := "492e628e120289c43fc92b161df02adc275467fcc115a5e3fbbb8276a77582e8", func := "loop.example/g01401/laws.FnExactKnockChances", spec := "fnExactKnockChances", inPlace := ["math.Float64bits", "math.Float64frombits"], unfollowed := true, recurses := true, apart := false, narrowed := true }
def FnExactKnockChancesUptoSaid : Prop := fnExactKnockChancesUptoRow.holds Try.pinned (OpenSpec.upto fnExactKnockChancesSpec)

/-- 'laws.FnExactShuffleOrder', WHERE WHAT IT READS IS OF BULK AT MOST 1048576: true; the input reads as it did. -/
def fnExactShuffleOrderUptoRow : OpenClaim := { program := "ytodmaomngpnboaa", sum := "492e628e120289c43fc92b161df02adc275467fcc115a5e3fbbb8276a77582e8", func := "loop.example/g01401/laws.FnExactShuffleOrder", spec := "fnExactShuffleOrder", unfollowed := true, recurses := true, apart := false, narrowed := true }
def FnExactShuffleOrderUptoSaid : Prop := fnExactShuffleOrderUptoRow.holds Try.pinned (OpenSpec.upto fnExactShuffleOrderSpec)

end Rows
end Go.Proofs.Ytodmaomngpnboaa
