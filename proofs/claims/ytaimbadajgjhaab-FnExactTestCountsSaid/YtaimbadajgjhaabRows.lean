/-
  No cell of these rows narrows 'for every input' (looked for: loops, veiled, ifaces, maps, wideKeys, modest, calm, conditions, laid).
  DERIVED. THE GIVEN ROWS OF THIS SEAT. 12 by the template 'for every input the law returns true; each argument reads behind the call as it read before'; 0 by the template 'total and deterministic' (their statements: YtaimbadajgjhaabTotals.lean).
  GIVEN WITH THE SEED: the statements are not yours to turn. If you find one false, say at which input.
  Laid BY PROGRAM, IN A SANDBOX (cutbox-rows.mjs): the forced cells as the released guide's own fill.sh prints them over the translation 985930a0faa1bba1… (all of the seat's roots in one cut). By AI agents, Wed Nov 11 2026. No macro, syntax, notation, axiom, sorry.
-/
import Derived.Test.YtaimbadajgjhaabChecked
import GoSem.Claim
import GoSem.ClaimJoined
import GoSem.ClaimMapViews
import Derived.JoinedTies
import Derived.KernelRfl
namespace Go.Proofs.Ytaimbadajgjhaab
/- THE CELL 'sum', in the pinned program and in every row, IS THE sha256 OF THE DUMP (.gsa) THAT YtaimbadajgjhaabProg.lean LOADS. Nothing in Lean hashes anything: it is a label: what it is worth is what the hold of that sum in a sandbox is worth. -/
noncomputable def Try.pinned : Pinned := { name := "ytaimbadajgjhaab", sum := "985930a0faa1bba10b5bc8b9d79b88d44fd59fe37be91a35f0eca1a281af4e54", checked := Try.checked }
namespace Rows
def none {H : Type} : Left H := { results := [], args := [] }

/-- 'laws.FnExactSameDie': WHATEVER THE INPUT: true; the input reads as it did. -/
def fnExactSameDieSpec : ChangeSpec := { name := "fnExactSameDie", fn := fun _ => fun
  | [d1, d2] => { results := [.lit (.bool true)], args := [d1, d2] }
  | _ => none }
def fnExactSameDieRow : OpenClaim := { program := "ytaimbadajgjhaab", sum := "985930a0faa1bba10b5bc8b9d79b88d44fd59fe37be91a35f0eca1a281af4e54", func := "loop.example/g01401/laws.FnExactSameDie", spec := "fnExactSameDie", apart := false }
def FnExactSameDieSaid : Prop := fnExactSameDieRow.holds Try.pinned (OpenSpec.ofChange fnExactSameDieSpec)

/-- ITS FALSE NEIGHBOUR: 'it returns false'. Refute it at one input. -/
def fnExactSameDieWrong : ChangeSpec := { name := "fnExactSameDie", fn := fun _ => fun
  | [d1, d2] => { results := [.lit (.bool false)], args := [d1, d2] }
  | _ => none }
def FnExactSameDieWrongFalsely : Prop := fnExactSameDieRow.holds Try.pinned (OpenSpec.ofChange fnExactSameDieWrong)

/-- 'laws.FnExactPlainDie': WHATEVER THE INPUT: true; the input reads as it did. -/
def fnExactPlainDieSpec : ChangeSpec := { name := "fnExactPlainDie", fn := fun _ => fun
  | [d] => { results := [.lit (.bool true)], args := [d] }
  | _ => none }
def fnExactPlainDieRow : OpenClaim := { program := "ytaimbadajgjhaab", sum := "985930a0faa1bba10b5bc8b9d79b88d44fd59fe37be91a35f0eca1a281af4e54", func := "loop.example/g01401/laws.FnExactPlainDie", spec := "fnExactPlainDie", apart := false }
def FnExactPlainDieSaid : Prop := fnExactPlainDieRow.holds Try.pinned (OpenSpec.ofChange fnExactPlainDieSpec)

/-- ITS FALSE NEIGHBOUR: 'it returns false'. Refute it at one input. -/
def fnExactPlainDieWrong : ChangeSpec := { name := "fnExactPlainDie", fn := fun _ => fun
  | [d] => { results := [.lit (.bool false)], args := [d] }
  | _ => none }
def FnExactPlainDieWrongFalsely : Prop := fnExactPlainDieRow.holds Try.pinned (OpenSpec.ofChange fnExactPlainDieWrong)

/-- 'laws.FnExactBeats': WHATEVER THE INPUT: true; the input reads as it did. -/
def fnExactBeatsSpec : ChangeSpec := { name := "fnExactBeats", fn := fun _ => fun
  | [d1, d2] => { results := [.lit (.bool true)], args := [d1, d2] }
  | _ => none }
def fnExactBeatsRow : OpenClaim := { program := "ytaimbadajgjhaab", sum := "985930a0faa1bba10b5bc8b9d79b88d44fd59fe37be91a35f0eca1a281af4e54", func := "loop.example/g01401/laws.FnExactBeats", spec := "fnExactBeats", unfollowed := true, recurses := true, apart := false }
def FnExactBeatsSaid : Prop := fnExactBeatsRow.holds Try.pinned (OpenSpec.ofChange fnExactBeatsSpec)

/-- ITS FALSE NEIGHBOUR: 'it returns false'. Refute it at one input. -/
def fnExactBeatsWrong : ChangeSpec := { name := "fnExactBeats", fn := fun _ => fun
  | [d1, d2] => { results := [.lit (.bool false)], args := [d1, d2] }
  | _ => none }
def FnExactBeatsWrongFalsely : Prop := fnExactBeatsRow.holds Try.pinned (OpenSpec.ofChange fnExactBeatsWrong)

/-- 'laws.FnExactIsRing': WHATEVER THE INPUT: true; the input reads as it did. -/
def fnExactIsRingSpec : ChangeSpec := { name := "fnExactIsRing", fn := fun _ => fun
  | [d] => { results := [.lit (.bool true)], args := [d] }
  | _ => none }
def fnExactIsRingRow : OpenClaim := { program := "ytaimbadajgjhaab", sum := "985930a0faa1bba10b5bc8b9d79b88d44fd59fe37be91a35f0eca1a281af4e54", func := "loop.example/g01401/laws.FnExactIsRing", spec := "fnExactIsRing", unfollowed := true, recurses := true, apart := false }
def FnExactIsRingSaid : Prop := fnExactIsRingRow.holds Try.pinned (OpenSpec.ofChange fnExactIsRingSpec)

/-- ITS FALSE NEIGHBOUR: 'it returns false'. Refute it at one input. -/
def fnExactIsRingWrong : ChangeSpec := { name := "fnExactIsRing", fn := fun _ => fun
  | [d] => { results := [.lit (.bool false)], args := [d] }
  | _ => none }
def FnExactIsRingWrongFalsely : Prop := fnExactIsRingRow.holds Try.pinned (OpenSpec.ofChange fnExactIsRingWrong)

/-- 'laws.FnExactTestCounts': WHATEVER THE INPUT: true; the input reads as it did. -/
def fnExactTestCountsSpec : ChangeSpec := { name := "fnExactTestCounts", fn := fun _ => fun
  | [d1, d2] => { results := [.lit (.bool true)], args := [d1, d2] }
  | _ => none }
def fnExactTestCountsRow : OpenClaim := { program := "ytaimbadajgjhaab", sum := "985930a0faa1bba10b5bc8b9d79b88d44fd59fe37be91a35f0eca1a281af4e54", func := "loop.example/g01401/laws.FnExactTestCounts", spec := "fnExactTestCounts", unfollowed := true, recurses := true, apart := false }
def FnExactTestCountsSaid : Prop := fnExactTestCountsRow.holds Try.pinned (OpenSpec.ofChange fnExactTestCountsSpec)

/-- ITS FALSE NEIGHBOUR: 'it returns false'. Refute it at one input. -/
def fnExactTestCountsWrong : ChangeSpec := { name := "fnExactTestCounts", fn := fun _ => fun
  | [d1, d2] => { results := [.lit (.bool false)], args := [d1, d2] }
  | _ => none }
def FnExactTestCountsWrongFalsely : Prop := fnExactTestCountsRow.holds Try.pinned (OpenSpec.ofChange fnExactTestCountsWrong)

/-- 'laws.FnExactRollDice': WHATEVER THE INPUT: true; the input reads as it did. -/
def fnExactRollDiceSpec : ChangeSpec := { name := "fnExactRollDice", fn := fun _ => fun
  | [d1, d2, d3] => { results := [.lit (.bool true)], args := [d1, d2, d3] }
  | _ => none }
def fnExactRollDiceRow : OpenClaim := { program := "ytaimbadajgjhaab", sum := "985930a0faa1bba10b5bc8b9d79b88d44fd59fe37be91a35f0eca1a281af4e54", func := "loop.example/g01401/laws.FnExactRollDice", spec := "fnExactRollDice", unfollowed := true, recurses := true, apart := false }
def FnExactRollDiceSaid : Prop := fnExactRollDiceRow.holds Try.pinned (OpenSpec.ofChange fnExactRollDiceSpec)

/-- ITS FALSE NEIGHBOUR: 'it returns false'. Refute it at one input. -/
def fnExactRollDiceWrong : ChangeSpec := { name := "fnExactRollDice", fn := fun _ => fun
  | [d1, d2, d3] => { results := [.lit (.bool false)], args := [d1, d2, d3] }
  | _ => none }
def FnExactRollDiceWrongFalsely : Prop := fnExactRollDiceRow.holds Try.pinned (OpenSpec.ofChange fnExactRollDiceWrong)

/-- 'laws.FnExactWeighCoins': WHATEVER THE INPUT: true; the input reads as it did. -/
def fnExactWeighCoinsSpec : ChangeSpec := { name := "fnExactWeighCoins", fn := fun _ => fun
  | [d1, d2, d3] => { results := [.lit (.bool true)], args := [d1, d2, d3] }
  | _ => none }
def fnExactWeighCoinsRow : OpenClaim := { program := "ytaimbadajgjhaab", sum := "985930a0faa1bba10b5bc8b9d79b88d44fd59fe37be91a35f0eca1a281af4e54", func := "loop.example/g01401/laws.FnExactWeighCoins", spec := "fnExactWeighCoins", unfollowed := true, recurses := true, apart := false }
def FnExactWeighCoinsSaid : Prop := fnExactWeighCoinsRow.holds Try.pinned (OpenSpec.ofChange fnExactWeighCoinsSpec)

/-- ITS FALSE NEIGHBOUR: 'it returns false'. Refute it at one input. -/
def fnExactWeighCoinsWrong : ChangeSpec := { name := "fnExactWeighCoins", fn := fun _ => fun
  | [d1, d2, d3] => { results := [.lit (.bool false)], args := [d1, d2, d3] }
  | _ => none }
def FnExactWeighCoinsWrongFalsely : Prop := fnExactWeighCoinsRow.holds Try.pinned (OpenSpec.ofChange fnExactWeighCoinsWrong)

/-- 'laws.FnExactCoinsLeft': WHATEVER THE INPUT: true; the input reads as it did. -/
def fnExactCoinsLeftSpec : ChangeSpec := { name := "fnExactCoinsLeft", fn := fun _ => fun
  | [d1, d2, d3] => { results := [.lit (.bool true)], args := [d1, d2, d3] }
  | _ => none }
def fnExactCoinsLeftRow : OpenClaim := { program := "ytaimbadajgjhaab", sum := "985930a0faa1bba10b5bc8b9d79b88d44fd59fe37be91a35f0eca1a281af4e54", func := "loop.example/g01401/laws.FnExactCoinsLeft", spec := "fnExactCoinsLeft", unfollowed := true, recurses := true, apart := false }
def FnExactCoinsLeftSaid : Prop := fnExactCoinsLeftRow.holds Try.pinned (OpenSpec.ofChange fnExactCoinsLeftSpec)

/-- ITS FALSE NEIGHBOUR: 'it returns false'. Refute it at one input. -/
def fnExactCoinsLeftWrong : ChangeSpec := { name := "fnExactCoinsLeft", fn := fun _ => fun
  | [d1, d2, d3] => { results := [.lit (.bool false)], args := [d1, d2, d3] }
  | _ => none }
def FnExactCoinsLeftWrongFalsely : Prop := fnExactCoinsLeftRow.holds Try.pinned (OpenSpec.ofChange fnExactCoinsLeftWrong)

/-- 'laws.FnExactIsCoinPlan': WHATEVER THE INPUT: true; the input reads as it did. -/
def fnExactIsCoinPlanSpec : ChangeSpec := { name := "fnExactIsCoinPlan", fn := fun _ => fun
  | [d1, d2] => { results := [.lit (.bool true)], args := [d1, d2] }
  | _ => none }
def fnExactIsCoinPlanRow : OpenClaim := { program := "ytaimbadajgjhaab", sum := "985930a0faa1bba10b5bc8b9d79b88d44fd59fe37be91a35f0eca1a281af4e54", func := "loop.example/g01401/laws.FnExactIsCoinPlan", spec := "fnExactIsCoinPlan", unfollowed := true, recurses := true, apart := false }
def FnExactIsCoinPlanSaid : Prop := fnExactIsCoinPlanRow.holds Try.pinned (OpenSpec.ofChange fnExactIsCoinPlanSpec)

/-- ITS FALSE NEIGHBOUR: 'it returns false'. Refute it at one input. -/
def fnExactIsCoinPlanWrong : ChangeSpec := { name := "fnExactIsCoinPlan", fn := fun _ => fun
  | [d1, d2] => { results := [.lit (.bool false)], args := [d1, d2] }
  | _ => none }
def FnExactIsCoinPlanWrongFalsely : Prop := fnExactIsCoinPlanRow.holds Try.pinned (OpenSpec.ofChange fnExactIsCoinPlanWrong)

/-- 'laws.FnExactLearnThrows': WHATEVER THE INPUT: true; the input reads as it did. -/
def fnExactLearnThrowsSpec : ChangeSpec := { name := "fnExactLearnThrows", fn := fun _ => fun
  | [d1, d2] => { results := [.lit (.bool true)], args := [d1, d2] }
  | _ => none }
def fnExactLearnThrowsRow : OpenClaim := { program := "ytaimbadajgjhaab", sum := "985930a0faa1bba10b5bc8b9d79b88d44fd59fe37be91a35f0eca1a281af4e54", func := "loop.example/g01401/laws.FnExactLearnThrows", spec := "fnExactLearnThrows", unfollowed := true, recurses := true, apart := false }
def FnExactLearnThrowsSaid : Prop := fnExactLearnThrowsRow.holds Try.pinned (OpenSpec.ofChange fnExactLearnThrowsSpec)

/-- ITS FALSE NEIGHBOUR: 'it returns false'. Refute it at one input. -/
def fnExactLearnThrowsWrong : ChangeSpec := { name := "fnExactLearnThrows", fn := fun _ => fun
  | [d1, d2] => { results := [.lit (.bool false)], args := [d1, d2] }
  | _ => none }
def FnExactLearnThrowsWrongFalsely : Prop := fnExactLearnThrowsRow.holds Try.pinned (OpenSpec.ofChange fnExactLearnThrowsWrong)

/-- 'laws.FnExactEvenThrows': WHATEVER THE INPUT: true; the input reads as it did. -/
def fnExactEvenThrowsSpec : ChangeSpec := { name := "fnExactEvenThrows", fn := fun _ => fun
  | [d] => { results := [.lit (.bool true)], args := [d] }
  | _ => none }
def fnExactEvenThrowsRow : OpenClaim := { program := "ytaimbadajgjhaab", sum := "985930a0faa1bba10b5bc8b9d79b88d44fd59fe37be91a35f0eca1a281af4e54", func := "loop.example/g01401/laws.FnExactEvenThrows", spec := "fnExactEvenThrows", unfollowed := true, recurses := true, apart := false }
def FnExactEvenThrowsSaid : Prop := fnExactEvenThrowsRow.holds Try.pinned (OpenSpec.ofChange fnExactEvenThrowsSpec)

/-- ITS FALSE NEIGHBOUR: 'it returns false'. Refute it at one input. -/
def fnExactEvenThrowsWrong : ChangeSpec := { name := "fnExactEvenThrows", fn := fun _ => fun
  | [d] => { results := [.lit (.bool false)], args := [d] }
  | _ => none }
def FnExactEvenThrowsWrongFalsely : Prop := fnExactEvenThrowsRow.holds Try.pinned (OpenSpec.ofChange fnExactEvenThrowsWrong)

/-- 'laws.FnThrows': WHATEVER THE INPUT: true; the input reads as it did. -/
def fnThrowsSpec : ChangeSpec := { name := "fnThrows", fn := fun _ => fun
  | [d1, d2] => { results := [.lit (.bool true)], args := [d1, d2] }
  | _ => none }
def fnThrowsRow : OpenClaim := { program := "ytaimbadajgjhaab", sum := "985930a0faa1bba10b5bc8b9d79b88d44fd59fe37be91a35f0eca1a281af4e54", func := "loop.example/g01401/laws.FnThrows", spec := "fnThrows", unfollowed := true, recurses := true, apart := false }
def FnThrowsSaid : Prop := fnThrowsRow.holds Try.pinned (OpenSpec.ofChange fnThrowsSpec)

/-- ITS FALSE NEIGHBOUR: 'it returns false'. Refute it at one input. -/
def fnThrowsWrong : ChangeSpec := { name := "fnThrows", fn := fun _ => fun
  | [d1, d2] => { results := [.lit (.bool false)], args := [d1, d2] }
  | _ => none }
def FnThrowsWrongFalsely : Prop := fnThrowsRow.holds Try.pinned (OpenSpec.ofChange fnThrowsWrong)

/- THE SECOND FORM. 'bulk': how many values and letters a reading holds, each counted each time it is reached (what is shared counts as often as it is met; a slice's spare places count too). A statement '..UptoSaid' is the law's where the arguments, and the package variables that the reading takes, are together of bulk at most 1048576: NARROWER than '..Said'. Prove '..Said' where nothing that the law and all that it calls make is longer than what came in: it says more and counts as full. Else prove '..UptoSaid'. A law counts once. -/
mutual
def uptoBulk {H : Type} : DataW H → Nat
  | .lit (.string bytes) => bytes.length + 1
  | .lit _ => 1
  | .nil => 1
  | .ptr d => uptoBulk d + 1
  | .slice elems spare => uptoBulkAll elems + uptoBulkAll spare + 1
  | .agg parts => uptoBulkAll parts + 1
  | .iface _ d => uptoBulk d + 1
  | .map entries => uptoBulkEntries entries + 1
  | .held _ => 1
def uptoBulkAll {H : Type} : List (DataW H) → Nat
  | [] => 0
  | d :: r => uptoBulk d + uptoBulkAll r
def uptoBulkEntries {H : Type} : List (Lit × DataW H) → Nat
  | [] => 0
  | x :: r => uptoBulkEntry x + uptoBulkEntries r
def uptoBulkEntry {H : Type} : Lit × DataW H → Nat
  | (.string bytes, d) => bytes.length + uptoBulk d + 1
  | (_, d) => uptoBulk d + 1
 end
def uptoSmall : (H : Type) → List (DataW H) → Bool := fun _ ds => decide (uptoBulkAll ds ≤ 1048576)
def OpenSpec.upto (s : _root_.Go.ChangeSpec) : _root_.Go.OpenSpec := { _root_.Go.OpenSpec.ofChange s with cond := some uptoSmall }

/-- 'laws.FnExactSameDie', WHERE WHAT IT READS IS OF BULK AT MOST 1048576: true; the input reads as it did. -/
def fnExactSameDieUptoRow : OpenClaim := { program := "ytaimbadajgjhaab", sum := "985930a0faa1bba10b5bc8b9d79b88d44fd59fe37be91a35f0eca1a281af4e54", func := "loop.example/g01401/laws.FnExactSameDie", spec := "fnExactSameDie", apart := false, narrowed := true }
def FnExactSameDieUptoSaid : Prop := fnExactSameDieUptoRow.holds Try.pinned (OpenSpec.upto fnExactSameDieSpec)

/-- 'laws.FnExactPlainDie', WHERE WHAT IT READS IS OF BULK AT MOST 1048576: true; the input reads as it did. -/
def fnExactPlainDieUptoRow : OpenClaim := { program := "ytaimbadajgjhaab", sum := "985930a0faa1bba10b5bc8b9d79b88d44fd59fe37be91a35f0eca1a281af4e54", func := "loop.example/g01401/laws.FnExactPlainDie", spec := "fnExactPlainDie", apart := false, narrowed := true }
def FnExactPlainDieUptoSaid : Prop := fnExactPlainDieUptoRow.holds Try.pinned (OpenSpec.upto fnExactPlainDieSpec)

/-- 'laws.FnExactBeats', WHERE WHAT IT READS IS OF BULK AT MOST 1048576: true; the input reads as it did. -/
def fnExactBeatsUptoRow : OpenClaim := { program := "ytaimbadajgjhaab", sum := "985930a0faa1bba10b5bc8b9d79b88d44fd59fe37be91a35f0eca1a281af4e54", func := "loop.example/g01401/laws.FnExactBeats", spec := "fnExactBeats", unfollowed := true, recurses := true, apart := false, narrowed := true }
def FnExactBeatsUptoSaid : Prop := fnExactBeatsUptoRow.holds Try.pinned (OpenSpec.upto fnExactBeatsSpec)

/-- 'laws.FnExactIsRing', WHERE WHAT IT READS IS OF BULK AT MOST 1048576: true; the input reads as it did. -/
def fnExactIsRingUptoRow : OpenClaim := { program := "ytaimbadajgjhaab", sum := "985930a0faa1bba10b5bc8b9d79b88d44fd59fe37be91a35f0eca1a281af4e54", func := "loop.example/g01401/laws.FnExactIsRing", spec := "fnExactIsRing", unfollowed := true, recurses := true, apart := false, narrowed := true }
def FnExactIsRingUptoSaid : Prop := fnExactIsRingUptoRow.holds Try.pinned (OpenSpec.upto fnExactIsRingSpec)

/-- 'laws.FnExactTestCounts', WHERE WHAT IT READS IS OF BULK AT MOST 1048576: true; the input reads as it did. -/
def fnExactTestCountsUptoRow : OpenClaim := { program := "ytaimbadajgjhaab", sum := "985930a0faa1bba10b5bc8b9d79b88d44fd59fe37be91a35f0eca1a281af4e54", func := "loop.example/g01401/laws.FnExactTestCounts", spec := "fnExactTestCounts", unfollowed := true, recurses := true, apart := false, narrowed := true }
def FnExactTestCountsUptoSaid : Prop := fnExactTestCountsUptoRow.holds Try.pinned (OpenSpec.upto fnExactTestCountsSpec)

/-- 'laws.FnExactRollDice', WHERE WHAT IT READS IS OF BULK AT MOST 1048576: true; the input reads as it did. -/
def fnExactRollDiceUptoRow : OpenClaim := { program := "ytaimbadajgjhaab", sum := "985930a0faa1bba10b5bc8b9d79b88d44fd59fe37be91a35f0eca1a281af4e54", func := "loop.example/g01401/laws.FnExactRollDice", spec := "fnExactRollDice", unfollowed := true, recurses := true, apart := false, narrowed := true }
def FnExactRollDiceUptoSaid : Prop := fnExactRollDiceUptoRow.holds Try.pinned (OpenSpec.upto fnExactRollDiceSpec)

/-- 'laws.FnExactWeighCoins', WHERE WHAT IT READS IS OF BULK AT MOST 1048576: true; the input reads as it did. -/
def fnExactWeighCoinsUptoRow : OpenClaim := { program := "ytaimbadajgjhaab", sum := "985930a0faa1bba10b5bc8b9d79b88d44fd59fe37be91a35f0eca1a281af4e54", func := "loop.example/g01401/laws.FnExactWeighCoins", spec := "fnExactWeighCoins", unfollowed := true, recurses := true, apart := false, narrowed := true }
def FnExactWeighCoinsUptoSaid : Prop := fnExactWeighCoinsUptoRow.holds Try.pinned (OpenSpec.upto fnExactWeighCoinsSpec)

/-- 'laws.FnExactCoinsLeft', WHERE WHAT IT READS IS OF BULK AT MOST 1048576: true; the input reads as it did. -/
def fnExactCoinsLeftUptoRow : OpenClaim := { program := "ytaimbadajgjhaab", sum := "985930a0faa1bba10b5bc8b9d79b88d44fd59fe37be91a35f0eca1a281af4e54", func := "loop.example/g01401/laws.FnExactCoinsLeft", spec := "fnExactCoinsLeft", unfollowed := true, recurses := true, apart := false, narrowed := true }
def FnExactCoinsLeftUptoSaid : Prop := fnExactCoinsLeftUptoRow.holds Try.pinned (OpenSpec.upto fnExactCoinsLeftSpec)

/-- 'laws.FnExactIsCoinPlan', WHERE WHAT IT READS IS OF BULK AT MOST 1048576: true; the input reads as it did. -/
def fnExactIsCoinPlanUptoRow : OpenClaim := { program := "ytaimbadajgjhaab", sum := "985930a0faa1bba10b5bc8b9d79b88d44fd59fe37be91a35f0eca1a281af4e54", func := "loop.example/g01401/laws.FnExactIsCoinPlan", spec := "fnExactIsCoinPlan", unfollowed := true, recurses := true, apart := false, narrowed := true }
def FnExactIsCoinPlanUptoSaid : Prop := fnExactIsCoinPlanUptoRow.holds Try.pinned (OpenSpec.upto fnExactIsCoinPlanSpec)

/-- 'laws.FnExactLearnThrows', WHERE WHAT IT READS IS OF BULK AT MOST 1048576: true; the input reads as it did. -/
def fnExactLearnThrowsUptoRow : OpenClaim := { program := "ytaimbadajgjhaab", sum := "985930a0faa1bba10b5bc8b9d79b88d44fd59fe37be91a35f0eca1a281af4e54", func := "loop.example/g01401/laws.FnExactLearnThrows", spec := "fnExactLearnThrows", unfollowed := true, recurses := true, apart := false, narrowed := true }
def FnExactLearnThrowsUptoSaid : Prop := fnExactLearnThrowsUptoRow.holds Try.pinned (OpenSpec.upto fnExactLearnThrowsSpec)

/-- 'laws.FnExactEvenThrows', WHERE WHAT IT READS IS OF BULK AT MOST 1048576: true; the input reads as it did. -/
def fnExactEvenThrowsUptoRow : OpenClaim := { program := "ytaimbadajgjhaab", sum := "985930a0faa1bba10b5bc8b9d79b88d44fd59fe37be91a35f0eca1a281af4e54", func := "loop.example/g01401/laws.FnExactEvenThrows", spec := "fnExactEvenThrows", unfollowed := true, recurses := true, apart := false, narrowed := true }
def FnExactEvenThrowsUptoSaid : Prop := fnExactEvenThrowsUptoRow.holds Try.pinned (OpenSpec.upto fnExactEvenThrowsSpec)

/-- 'laws.FnThrows', WHERE WHAT IT READS IS OF BULK AT MOST 1048576: true; the input reads as it did. -/
def fnThrowsUptoRow : OpenClaim := { program := "ytaimbadajgjhaab", sum := "985930a0faa1bba10b5bc8b9d79b88d44fd59fe37be91a35f0eca1a281af4e54", func := "loop.example/g01401/laws.FnThrows", spec := "fnThrows", unfollowed := true, recurses := true, apart := false, narrowed := true }
def FnThrowsUptoSaid : Prop := fnThrowsUptoRow.holds Try.pinned (OpenSpec.upto fnThrowsSpec)

end Rows
end Go.Proofs.Ytaimbadajgjhaab
