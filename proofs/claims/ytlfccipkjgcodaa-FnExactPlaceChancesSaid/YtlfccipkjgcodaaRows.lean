/-
  No cell of these rows narrows 'for every input' (looked for: loops, veiled, ifaces, maps, wideKeys, modest, calm, conditions, laid).
  DERIVED. THE GIVEN ROWS OF THIS SEAT. 12 by the template 'for every input the law returns true; each argument reads behind the call as it read before'; 0 by the template 'total and deterministic' (their statements: YtlfccipkjgcodaaTotals.lean).
  GIVEN WITH THE SEED: the statements are not yours to turn. If you find one false, say at which input.
  Laid BY PROGRAM, IN A SANDBOX (cutbox-rows.mjs): the forced cells as the released guide's own fill.sh prints them over the translation 663f2964f39b681c… (all of the seat's roots in one cut). By AI agents, Wed Nov 11 2026. No macro, syntax, notation, axiom, sorry.
-/
import Derived.Test.YtlfccipkjgcodaaChecked
import GoSem.Claim
import GoSem.ClaimJoined
import GoSem.ClaimMapViews
import Derived.JoinedTies
import Derived.KernelRfl
namespace Go.Proofs.Ytlfccipkjgcodaa
/- THE CELL 'sum', in the pinned program and in every row, IS THE sha256 OF THE DUMP (.gsa) THAT YtlfccipkjgcodaaProg.lean LOADS. Nothing in Lean hashes anything: it is a label: what it is worth is what the hold of that sum in a sandbox is worth. -/
noncomputable def Try.pinned : Pinned := { name := "ytlfccipkjgcodaa", sum := "663f2964f39b681cf8827c370c69ac4e2f899f8dc168341a3ec2754aa5844b20", checked := Try.checked }
namespace Rows
def none {H : Type} : Left H := { results := [], args := [] }

/-- 'laws.FnExactCallShare': WHATEVER THE INPUT: true; the input reads as it did. -/
def fnExactCallShareSpec : ChangeSpec := { name := "fnExactCallShare", fn := fun _ => fun
  | [d1, d2] => { results := [.lit (.bool true)], args := [d1, d2] }
  | _ => none }
def fnExactCallShareRow : OpenClaim := { program := "ytlfccipkjgcodaa", sum := "663f2964f39b681cf8827c370c69ac4e2f899f8dc168341a3ec2754aa5844b20", func := "loop.example/g01401/laws.FnExactCallShare", spec := "fnExactCallShare", apart := false }
def FnExactCallShareSaid : Prop := fnExactCallShareRow.holds Try.pinned (OpenSpec.ofChange fnExactCallShareSpec)

/-- ITS FALSE NEIGHBOUR: 'it returns false'. Refute it at one input. -/
def fnExactCallShareWrong : ChangeSpec := { name := "fnExactCallShare", fn := fun _ => fun
  | [d1, d2] => { results := [.lit (.bool false)], args := [d1, d2] }
  | _ => none }
def FnExactCallShareWrongFalsely : Prop := fnExactCallShareRow.holds Try.pinned (OpenSpec.ofChange fnExactCallShareWrong)

/-- 'laws.FnExactBluffShare': WHATEVER THE INPUT: true; the input reads as it did. -/
def fnExactBluffShareSpec : ChangeSpec := { name := "fnExactBluffShare", fn := fun _ => fun
  | [d1, d2] => { results := [.lit (.bool true)], args := [d1, d2] }
  | _ => none }
def fnExactBluffShareRow : OpenClaim := { program := "ytlfccipkjgcodaa", sum := "663f2964f39b681cf8827c370c69ac4e2f899f8dc168341a3ec2754aa5844b20", func := "loop.example/g01401/laws.FnExactBluffShare", spec := "fnExactBluffShare", apart := false }
def FnExactBluffShareSaid : Prop := fnExactBluffShareRow.holds Try.pinned (OpenSpec.ofChange fnExactBluffShareSpec)

/-- ITS FALSE NEIGHBOUR: 'it returns false'. Refute it at one input. -/
def fnExactBluffShareWrong : ChangeSpec := { name := "fnExactBluffShare", fn := fun _ => fun
  | [d1, d2] => { results := [.lit (.bool false)], args := [d1, d2] }
  | _ => none }
def FnExactBluffShareWrongFalsely : Prop := fnExactBluffShareRow.holds Try.pinned (OpenSpec.ofChange fnExactBluffShareWrong)

/-- 'laws.FnExactBlindSteps': WHATEVER THE INPUT: true; the input reads as it did. -/
def fnExactBlindStepsSpec : ChangeSpec := { name := "fnExactBlindSteps", fn := fun _ => fun
  | [d1, d2, d3, d4] => { results := [.lit (.bool true)], args := [d1, d2, d3, d4] }
  | _ => none }
def fnExactBlindStepsRow : OpenClaim := { program := "ytlfccipkjgcodaa", sum := "663f2964f39b681cf8827c370c69ac4e2f899f8dc168341a3ec2754aa5844b20", func := "loop.example/g01401/laws.FnExactBlindSteps", spec := "fnExactBlindSteps", apart := false }
def FnExactBlindStepsSaid : Prop := fnExactBlindStepsRow.holds Try.pinned (OpenSpec.ofChange fnExactBlindStepsSpec)

/-- ITS FALSE NEIGHBOUR: 'it returns false'. Refute it at one input. -/
def fnExactBlindStepsWrong : ChangeSpec := { name := "fnExactBlindSteps", fn := fun _ => fun
  | [d1, d2, d3, d4] => { results := [.lit (.bool false)], args := [d1, d2, d3, d4] }
  | _ => none }
def FnExactBlindStepsWrongFalsely : Prop := fnExactBlindStepsRow.holds Try.pinned (OpenSpec.ofChange fnExactBlindStepsWrong)

/-- 'laws.FnExactHandsLeft': WHATEVER THE INPUT: true; the input reads as it did. -/
def fnExactHandsLeftSpec : ChangeSpec := { name := "fnExactHandsLeft", fn := fun _ => fun
  | [d1, d2, d3, d4, d5] => { results := [.lit (.bool true)], args := [d1, d2, d3, d4, d5] }
  | _ => none }
def fnExactHandsLeftRow : OpenClaim := { program := "ytlfccipkjgcodaa", sum := "663f2964f39b681cf8827c370c69ac4e2f899f8dc168341a3ec2754aa5844b20", func := "loop.example/g01401/laws.FnExactHandsLeft", spec := "fnExactHandsLeft", apart := false }
def FnExactHandsLeftSaid : Prop := fnExactHandsLeftRow.holds Try.pinned (OpenSpec.ofChange fnExactHandsLeftSpec)

/-- ITS FALSE NEIGHBOUR: 'it returns false'. Refute it at one input. -/
def fnExactHandsLeftWrong : ChangeSpec := { name := "fnExactHandsLeft", fn := fun _ => fun
  | [d1, d2, d3, d4, d5] => { results := [.lit (.bool false)], args := [d1, d2, d3, d4, d5] }
  | _ => none }
def FnExactHandsLeftWrongFalsely : Prop := fnExactHandsLeftRow.holds Try.pinned (OpenSpec.ofChange fnExactHandsLeftWrong)

/-- 'laws.FnExactKindCounts': WHATEVER THE INPUT: true; the input reads as it did. -/
def fnExactKindCountsSpec : ChangeSpec := { name := "fnExactKindCounts", fn := fun _ => fun
  | [d1, d2] => { results := [.lit (.bool true)], args := [d1, d2] }
  | _ => none }
def fnExactKindCountsRow : OpenClaim := { program := "ytlfccipkjgcodaa", sum := "663f2964f39b681cf8827c370c69ac4e2f899f8dc168341a3ec2754aa5844b20", func := "loop.example/g01401/laws.FnExactKindCounts", spec := "fnExactKindCounts", apart := false }
def FnExactKindCountsSaid : Prop := fnExactKindCountsRow.holds Try.pinned (OpenSpec.ofChange fnExactKindCountsSpec)

/-- ITS FALSE NEIGHBOUR: 'it returns false'. Refute it at one input. -/
def fnExactKindCountsWrong : ChangeSpec := { name := "fnExactKindCounts", fn := fun _ => fun
  | [d1, d2] => { results := [.lit (.bool false)], args := [d1, d2] }
  | _ => none }
def FnExactKindCountsWrongFalsely : Prop := fnExactKindCountsRow.holds Try.pinned (OpenSpec.ofChange fnExactKindCountsWrong)

/-- 'laws.FnExactGrowthShare': WHATEVER THE INPUT: true; the input reads as it did. -/
def fnExactGrowthShareSpec : ChangeSpec := { name := "fnExactGrowthShare", fn := fun _ => fun
  | [d1, d2] => { results := [.lit (.bool true)], args := [d1, d2] }
  | _ => none }
def fnExactGrowthShareRow : OpenClaim := { program := "ytlfccipkjgcodaa", sum := "663f2964f39b681cf8827c370c69ac4e2f899f8dc168341a3ec2754aa5844b20", func := "loop.example/g01401/laws.FnExactGrowthShare", spec := "fnExactGrowthShare", inPlace := ["math.Float64bits", "math.Float64frombits"], apart := false }
def FnExactGrowthShareSaid : Prop := fnExactGrowthShareRow.holds Try.pinned (OpenSpec.ofChange fnExactGrowthShareSpec)

/-- ITS FALSE NEIGHBOUR: 'it returns false'. Refute it at one input. -/
def fnExactGrowthShareWrong : ChangeSpec := { name := "fnExactGrowthShare", fn := fun _ => fun
  | [d1, d2] => { results := [.lit (.bool false)], args := [d1, d2] }
  | _ => none }
def FnExactGrowthShareWrongFalsely : Prop := fnExactGrowthShareRow.holds Try.pinned (OpenSpec.ofChange fnExactGrowthShareWrong)

/-- 'laws.FnExactCallGain': WHATEVER THE INPUT: true; the input reads as it did. -/
def fnExactCallGainSpec : ChangeSpec := { name := "fnExactCallGain", fn := fun _ => fun
  | [d1, d2, d3] => { results := [.lit (.bool true)], args := [d1, d2, d3] }
  | _ => none }
def fnExactCallGainRow : OpenClaim := { program := "ytlfccipkjgcodaa", sum := "663f2964f39b681cf8827c370c69ac4e2f899f8dc168341a3ec2754aa5844b20", func := "loop.example/g01401/laws.FnExactCallGain", spec := "fnExactCallGain", inPlace := ["math.Float64bits", "math.Float64frombits"], apart := false }
def FnExactCallGainSaid : Prop := fnExactCallGainRow.holds Try.pinned (OpenSpec.ofChange fnExactCallGainSpec)

/-- ITS FALSE NEIGHBOUR: 'it returns false'. Refute it at one input. -/
def fnExactCallGainWrong : ChangeSpec := { name := "fnExactCallGain", fn := fun _ => fun
  | [d1, d2, d3] => { results := [.lit (.bool false)], args := [d1, d2, d3] }
  | _ => none }
def FnExactCallGainWrongFalsely : Prop := fnExactCallGainRow.holds Try.pinned (OpenSpec.ofChange fnExactCallGainWrong)

/-- 'laws.FnExactGrowthAt': WHATEVER THE INPUT: true; the input reads as it did. -/
def fnExactGrowthAtSpec : ChangeSpec := { name := "fnExactGrowthAt", fn := fun _ => fun
  | [d1, d2, d3] => { results := [.lit (.bool true)], args := [d1, d2, d3] }
  | _ => none }
def fnExactGrowthAtRow : OpenClaim := { program := "ytlfccipkjgcodaa", sum := "663f2964f39b681cf8827c370c69ac4e2f899f8dc168341a3ec2754aa5844b20", func := "loop.example/g01401/laws.FnExactGrowthAt", spec := "fnExactGrowthAt", inPlace := ["math.Float64frombits", "math.Float64bits"], apart := false }
def FnExactGrowthAtSaid : Prop := fnExactGrowthAtRow.holds Try.pinned (OpenSpec.ofChange fnExactGrowthAtSpec)

/-- ITS FALSE NEIGHBOUR: 'it returns false'. Refute it at one input. -/
def fnExactGrowthAtWrong : ChangeSpec := { name := "fnExactGrowthAt", fn := fun _ => fun
  | [d1, d2, d3] => { results := [.lit (.bool false)], args := [d1, d2, d3] }
  | _ => none }
def FnExactGrowthAtWrongFalsely : Prop := fnExactGrowthAtRow.holds Try.pinned (OpenSpec.ofChange fnExactGrowthAtWrong)

/-- 'laws.FnExactSidePots': WHATEVER THE INPUT: true; the input reads as it did. -/
def fnExactSidePotsSpec : ChangeSpec := { name := "fnExactSidePots", fn := fun _ => fun
  | [d1, d2] => { results := [.lit (.bool true)], args := [d1, d2] }
  | _ => none }
def fnExactSidePotsRow : OpenClaim := { program := "ytlfccipkjgcodaa", sum := "663f2964f39b681cf8827c370c69ac4e2f899f8dc168341a3ec2754aa5844b20", func := "loop.example/g01401/laws.FnExactSidePots", spec := "fnExactSidePots", unfollowed := true, recurses := true, apart := false }
def FnExactSidePotsSaid : Prop := fnExactSidePotsRow.holds Try.pinned (OpenSpec.ofChange fnExactSidePotsSpec)

/-- ITS FALSE NEIGHBOUR: 'it returns false'. Refute it at one input. -/
def fnExactSidePotsWrong : ChangeSpec := { name := "fnExactSidePots", fn := fun _ => fun
  | [d1, d2] => { results := [.lit (.bool false)], args := [d1, d2] }
  | _ => none }
def FnExactSidePotsWrongFalsely : Prop := fnExactSidePotsRow.holds Try.pinned (OpenSpec.ofChange fnExactSidePotsWrong)

/-- 'laws.FnExactSharePots': WHATEVER THE INPUT: true; the input reads as it did. -/
def fnExactSharePotsSpec : ChangeSpec := { name := "fnExactSharePots", fn := fun _ => fun
  | [d1, d2, d3] => { results := [.lit (.bool true)], args := [d1, d2, d3] }
  | _ => none }
def fnExactSharePotsRow : OpenClaim := { program := "ytlfccipkjgcodaa", sum := "663f2964f39b681cf8827c370c69ac4e2f899f8dc168341a3ec2754aa5844b20", func := "loop.example/g01401/laws.FnExactSharePots", spec := "fnExactSharePots", unfollowed := true, recurses := true, apart := false }
def FnExactSharePotsSaid : Prop := fnExactSharePotsRow.holds Try.pinned (OpenSpec.ofChange fnExactSharePotsSpec)

/-- ITS FALSE NEIGHBOUR: 'it returns false'. Refute it at one input. -/
def fnExactSharePotsWrong : ChangeSpec := { name := "fnExactSharePots", fn := fun _ => fun
  | [d1, d2, d3] => { results := [.lit (.bool false)], args := [d1, d2, d3] }
  | _ => none }
def FnExactSharePotsWrongFalsely : Prop := fnExactSharePotsRow.holds Try.pinned (OpenSpec.ofChange fnExactSharePotsWrong)

/-- 'laws.FnExactIsHand': WHATEVER THE INPUT: true; the input reads as it did. -/
def fnExactIsHandSpec : ChangeSpec := { name := "fnExactIsHand", fn := fun _ => fun
  | [d] => { results := [.lit (.bool true)], args := [d] }
  | _ => none }
def fnExactIsHandRow : OpenClaim := { program := "ytlfccipkjgcodaa", sum := "663f2964f39b681cf8827c370c69ac4e2f899f8dc168341a3ec2754aa5844b20", func := "loop.example/g01401/laws.FnExactIsHand", spec := "fnExactIsHand", apart := false }
def FnExactIsHandSaid : Prop := fnExactIsHandRow.holds Try.pinned (OpenSpec.ofChange fnExactIsHandSpec)

/-- ITS FALSE NEIGHBOUR: 'it returns false'. Refute it at one input. -/
def fnExactIsHandWrong : ChangeSpec := { name := "fnExactIsHand", fn := fun _ => fun
  | [d] => { results := [.lit (.bool false)], args := [d] }
  | _ => none }
def FnExactIsHandWrongFalsely : Prop := fnExactIsHandRow.holds Try.pinned (OpenSpec.ofChange fnExactIsHandWrong)

/-- 'laws.FnExactPlaceChances': WHATEVER THE INPUT: true; the input reads as it did. -/
def fnExactPlaceChancesSpec : ChangeSpec := { name := "fnExactPlaceChances", fn := fun _ => fun
  | [d] => { results := [.lit (.bool true)], args := [d] }
  | _ => none }
def fnExactPlaceChancesRow : OpenClaim := { program := "ytlfccipkjgcodaa", sum := "663f2964f39b681cf8827c370c69ac4e2f899f8dc168341a3ec2754aa5844b20", func := "loop.example/g01401/laws.FnExactPlaceChances", spec := "fnExactPlaceChances", recurses := true, apart := false }
def FnExactPlaceChancesSaid : Prop := fnExactPlaceChancesRow.holds Try.pinned (OpenSpec.ofChange fnExactPlaceChancesSpec)

/-- ITS FALSE NEIGHBOUR: 'it returns false'. Refute it at one input. -/
def fnExactPlaceChancesWrong : ChangeSpec := { name := "fnExactPlaceChances", fn := fun _ => fun
  | [d] => { results := [.lit (.bool false)], args := [d] }
  | _ => none }
def FnExactPlaceChancesWrongFalsely : Prop := fnExactPlaceChancesRow.holds Try.pinned (OpenSpec.ofChange fnExactPlaceChancesWrong)

/- THE SECOND FORM. 'bulk': how many values and letters a reading holds, each counted each time it is reached (what is shared counts as often as it is met; a slice's spare places count too). A statement '..UptoSaid' is the law's where the arguments, and the package variables that the reading takes, are together of bulk at most 1048576: NARROWER than '..Said'. Prove '..Said' where nothing that the law and all that it calls make is longer than what came in: it says more and counts as full. Else prove '..UptoSaid'. A law counts once. -/
mutual
def uptoBulk {H : Type} : DataW H → Nat
  | .lit (.string bytes) => bytes.length + 1
  | .lit _ => 1
  | .nil => 1
  | .ptr d => uptoBulk d + 1
  | .slice elems spare => uptoBulkAll elems + uptoBulkAll spare + 1
  | .agg parts => uptoBulkAll parts + 1
  | .iface _ d => uptoBulk d + 1
  | .map entries => uptoBulkEntries entries + 1
  | .held _ => 1
def uptoBulkAll {H : Type} : List (DataW H) → Nat
  | [] => 0
  | d :: r => uptoBulk d + uptoBulkAll r
def uptoBulkEntries {H : Type} : List (Lit × DataW H) → Nat
  | [] => 0
  | x :: r => uptoBulkEntry x + uptoBulkEntries r
def uptoBulkEntry {H : Type} : Lit × DataW H → Nat
  | (.string bytes, d) => bytes.length + uptoBulk d + 1
  | (_, d) => uptoBulk d + 1
 end
def uptoSmall : (H : Type) → List (DataW H) → Bool := fun _ ds => decide (uptoBulkAll ds ≤ 1048576)
def OpenSpec.upto (s : _root_.Go.ChangeSpec) : _root_.Go.OpenSpec := { _root_.Go.OpenSpec.ofChange s with cond := some uptoSmall }

/-- 'laws.FnExactCallShare', WHERE WHAT IT READS IS OF BULK AT MOST 1048576: true; the input reads as it did. -/
def fnExactCallShareUptoRow : OpenClaim := { program := "ytlfccipkjgcodaa", sum := "663f2964f39b681cf8827c370c69ac4e2f899f8dc168341a3ec2754aa5844b20", func := "loop.example/g01401/laws.FnExactCallShare", spec := "fnExactCallShare", apart := false, narrowed := true }
def FnExactCallShareUptoSaid : Prop := fnExactCallShareUptoRow.holds Try.pinned (OpenSpec.upto fnExactCallShareSpec)

/-- 'laws.FnExactBluffShare', WHERE WHAT IT READS IS OF BULK AT MOST 1048576: true; the input reads as it did. -/
def fnExactBluffShareUptoRow : OpenClaim := { program := "ytlfccipkjgcodaa", sum := "663f2964f39b681cf8827c370c69ac4e2f899f8dc168341a3ec2754aa5844b20", func := "loop.example/g01401/laws.FnExactBluffShare", spec := "fnExactBluffShare", apart := false, narrowed := true }
def FnExactBluffShareUptoSaid : Prop := fnExactBluffShareUptoRow.holds Try.pinned (OpenSpec.upto fnExactBluffShareSpec)

/-- 'laws.FnExactBlindSteps', WHERE WHAT IT READS IS OF BULK AT MOST 1048576: true; the input reads as it did. -/
def fnExactBlindStepsUptoRow : OpenClaim := { program := "ytlfccipkjgcodaa", sum := "663f2964f39b681cf8827c370c69ac4e2f899f8dc168341a3ec2754aa5844b20", func := "loop.example/g01401/laws.FnExactBlindSteps", spec := "fnExactBlindSteps", apart := false, narrowed := true }
def FnExactBlindStepsUptoSaid : Prop := fnExactBlindStepsUptoRow.holds Try.pinned (OpenSpec.upto fnExactBlindStepsSpec)

/-- 'laws.FnExactHandsLeft', WHERE WHAT IT READS IS OF BULK AT MOST 1048576: true; the input reads as it did. -/
def fnExactHandsLeftUptoRow : OpenClaim := { program := "ytlfccipkjgcodaa", sum := "663f2964f39b681cf8827c370c69ac4e2f899f8dc168341a3ec2754aa5844b20", func := "loop.example/g01401/laws.FnExactHandsLeft", spec := "fnExactHandsLeft", apart := false, narrowed := true }
def FnExactHandsLeftUptoSaid : Prop := fnExactHandsLeftUptoRow.holds Try.pinned (OpenSpec.upto fnExactHandsLeftSpec)

/-- 'laws.FnExactKindCounts', WHERE WHAT IT READS IS OF BULK AT MOST 1048576: true; the input reads as it did. -/
def fnExactKindCountsUptoRow : OpenClaim := { program := "ytlfccipkjgcodaa", sum := "663f2964f39b681cf8827c370c69ac4e2f899f8dc168341a3ec2754aa5844b20", func := "loop.example/g01401/laws.FnExactKindCounts", spec := "fnExactKindCounts", apart := false, narrowed := true }
def FnExactKindCountsUptoSaid : Prop := fnExactKindCountsUptoRow.holds Try.pinned (OpenSpec.upto fnExactKindCountsSpec)

/-- 'laws.FnExactGrowthShare', WHERE WHAT IT READS IS OF BULK AT MOST 1048576: true; the input reads as it did. -/
def fnExactGrowthShareUptoRow : OpenClaim := { program := "ytlfccipkjgcodaa", sum := "663f2964f39b681cf8827c370c69ac4e2f899f8dc168341a3ec2754aa5844b20", func := "loop.example/g01401/laws.FnExactGrowthShare", spec := "fnExactGrowthShare", inPlace := ["math.Float64bits", "math.Float64frombits"], apart := false, narrowed := true }
def FnExactGrowthShareUptoSaid : Prop := fnExactGrowthShareUptoRow.holds Try.pinned (OpenSpec.upto fnExactGrowthShareSpec)

/-- 'laws.FnExactCallGain', WHERE WHAT IT READS IS OF BULK AT MOST 1048576: true; the input reads as it did. -/
def fnExactCallGainUptoRow : OpenClaim := { program := "ytlfccipkjgcodaa", sum := "663f2964f39b681cf8827c370c69ac4e2f899f8dc168341a3ec2754aa5844b20", func := "loop.example/g01401/laws.FnExactCallGain", spec := "fnExactCallGain", inPlace := ["math.Float64bits", "math.Float64frombits"], apart := false, narrowed := true }
def FnExactCallGainUptoSaid : Prop := fnExactCallGainUptoRow.holds Try.pinned (OpenSpec.upto fnExactCallGainSpec)

/-- 'laws.FnExactGrowthAt', WHERE WHAT IT READS IS OF BULK AT MOST 1048576: true; the input reads as it did. -/
def fnExactGrowthAtUptoRow : OpenClaim := { program := "ytlfccipkjgcodaa", sum := "663f2964f39b681cf8827c370c69ac4e2f899f8dc168341a3ec2754aa5844b20", func := "loop.example/g01401/laws.FnExactGrowthAt", spec := "fnExactGrowthAt", inPlace := ["math.Float64frombits", "math.Float64bits"], apart := false, narrowed := true }
def FnExactGrowthAtUptoSaid : Prop := fnExactGrowthAtUptoRow.holds Try.pinned (OpenSpec.upto fnExactGrowthAtSpec)

/-- 'laws.FnExactSidePots', WHERE WHAT IT READS IS OF BULK AT MOST 1048576: true; the input reads as it did. -/
def fnExactSidePotsUptoRow : OpenClaim := { program := "ytlfccipkjgcodaa", sum := "663f2964f39b681cf8827c370c69ac4e2f899f8dc168341a3ec2754aa5844b20", func := "loop.example/g01401/laws.FnExactSidePots", spec := "fnExactSidePots", unfollowed := true, recurses := true, apart := false, narrowed := true }
def FnExactSidePotsUptoSaid : Prop := fnExactSidePotsUptoRow.holds Try.pinned (OpenSpec.upto fnExactSidePotsSpec)

/-- 'laws.FnExactSharePots', WHERE WHAT IT READS IS OF BULK AT MOST 1048576: true; the input reads as it did. -/
def fnExactSharePotsUptoRow : OpenClaim := { program := "ytlfccipkjgcodaa", sum := "663f2964f39b681cf8827c370c69ac4e2f899f8dc168341a3ec2754aa5844b20", func := "loop.example/g01401/laws.FnExactSharePots", spec := "fnExactSharePots", unfollowed := true, recurses := true, apart := false, narrowed := true }
def FnExactSharePotsUptoSaid : Prop := fnExactSharePotsUptoRow.holds Try.pinned (OpenSpec.upto fnExactSharePotsSpec)

/-- 'laws.FnExactIsHand', WHERE WHAT IT READS IS OF BULK AT MOST 1048576: true; the input reads as it did. -/
def fnExactIsHandUptoRow : OpenClaim := { program := "ytlfccipkjgcodaa", sum := "663f2964f39b681cf8827c370c69ac4e2f899f8dc168341a3ec2754aa5844b20", func := "loop.example/g01401/laws.FnExactIsHand", spec := "fnExactIsHand", apart := false, narrowed := true }
def FnExactIsHandUptoSaid : Prop := fnExactIsHandUptoRow.holds Try.pinned (OpenSpec.upto fnExactIsHandSpec)

/-- 'laws.FnExactPlaceChances', WHERE WHAT IT READS IS OF BULK AT MOST 1048576: true; the input reads as it did. -/
def fnExactPlaceChancesUptoRow : OpenClaim := { program := "ytlfccipkjgcodaa", sum := "663f2964f39b681cf8827c370c69ac4e2f899f8dc168341a3ec2754aa5844b20", func := "loop.example/g01401/laws.FnExactPlaceChances", spec := "fnExactPlaceChances", recurses := true, apart := false, narrowed := true }
def FnExactPlaceChancesUptoSaid : Prop := fnExactPlaceChancesUptoRow.holds Try.pinned (OpenSpec.upto fnExactPlaceChancesSpec)

end Rows
end Go.Proofs.Ytlfccipkjgcodaa
