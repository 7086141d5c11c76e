/-
  No cell of these rows narrows 'for every input' (looked for: loops, veiled, ifaces, maps, wideKeys, modest, calm, conditions, laid).
  DERIVED. THE GIVEN ROWS OF THIS SEAT. 12 by the template 'for every input the law returns true; each argument reads behind the call as it read before'; 0 by the template 'total and deterministic' (their statements: YtaimbadajgjhaaaTotals.lean).
  GIVEN WITH THE SEED: the statements are not yours to turn. If you find one false, say at which input.
  Laid BY PROGRAM, IN A SANDBOX (cutbox-rows.mjs): the forced cells as the released guide's own fill.sh prints them over the translation f198163fd311b357… (all of the seat's roots in one cut). By AI agents, Wed Nov 11 2026. No macro, syntax, notation, axiom, sorry.
-/
import Derived.Test.YtaimbadajgjhaaaChecked
import GoSem.Claim
import GoSem.ClaimJoined
import GoSem.ClaimMapViews
import Derived.JoinedTies
import Derived.KernelRfl
namespace Go.Proofs.Ytaimbadajgjhaaa
/- THE CELL 'sum', in the pinned program and in every row, IS THE sha256 OF THE DUMP (.gsa) THAT YtaimbadajgjhaaaProg.lean LOADS. Nothing in Lean hashes anything: it is a label: what it is worth is what the hold of that sum in a sandbox is worth. -/
noncomputable def Try.pinned : Pinned := { name := "ytaimbadajgjhaaa", sum := "f198163fd311b357a488838389b1e9b8c97d5c88e405363dcb70933a6ca2cf77", checked := Try.checked }
namespace Rows
def none {H : Type} : Left H := { results := [], args := [] }

/-- 'laws.FnExactValidDie': WHATEVER THE INPUT: true; the input reads as it did. -/
def fnExactValidDieSpec : ChangeSpec := { name := "fnExactValidDie", fn := fun _ => fun
  | [d] => { results := [.lit (.bool true)], args := [d] }
  | _ => none }
def fnExactValidDieRow : OpenClaim := { program := "ytaimbadajgjhaaa", sum := "f198163fd311b357a488838389b1e9b8c97d5c88e405363dcb70933a6ca2cf77", func := "loop.example/g01401/laws.FnExactValidDie", spec := "fnExactValidDie", unfollowed := true, recurses := true, apart := false }
def FnExactValidDieSaid : Prop := fnExactValidDieRow.holds Try.pinned (OpenSpec.ofChange fnExactValidDieSpec)

/-- ITS FALSE NEIGHBOUR: 'it returns false'. Refute it at one input. -/
def fnExactValidDieWrong : ChangeSpec := { name := "fnExactValidDie", fn := fun _ => fun
  | [d] => { results := [.lit (.bool false)], args := [d] }
  | _ => none }
def FnExactValidDieWrongFalsely : Prop := fnExactValidDieRow.holds Try.pinned (OpenSpec.ofChange fnExactValidDieWrong)

/-- 'laws.FnExactSumCounts': WHATEVER THE INPUT: true; the input reads as it did. -/
def fnExactSumCountsSpec : ChangeSpec := { name := "fnExactSumCounts", fn := fun _ => fun
  | [d] => { results := [.lit (.bool true)], args := [d] }
  | _ => none }
def fnExactSumCountsRow : OpenClaim := { program := "ytaimbadajgjhaaa", sum := "f198163fd311b357a488838389b1e9b8c97d5c88e405363dcb70933a6ca2cf77", func := "loop.example/g01401/laws.FnExactSumCounts", spec := "fnExactSumCounts", unfollowed := true, recurses := true, apart := false }
def FnExactSumCountsSaid : Prop := fnExactSumCountsRow.holds Try.pinned (OpenSpec.ofChange fnExactSumCountsSpec)

/-- ITS FALSE NEIGHBOUR: 'it returns false'. Refute it at one input. -/
def fnExactSumCountsWrong : ChangeSpec := { name := "fnExactSumCounts", fn := fun _ => fun
  | [d] => { results := [.lit (.bool false)], args := [d] }
  | _ => none }
def FnExactSumCountsWrongFalsely : Prop := fnExactSumCountsRow.holds Try.pinned (OpenSpec.ofChange fnExactSumCountsWrong)

/-- 'laws.FnExactSameSums': WHATEVER THE INPUT: true; the input reads as it did. -/
def fnExactSameSumsSpec : ChangeSpec := { name := "fnExactSameSums", fn := fun _ => fun
  | [d1, d2] => { results := [.lit (.bool true)], args := [d1, d2] }
  | _ => none }
def fnExactSameSumsRow : OpenClaim := { program := "ytaimbadajgjhaaa", sum := "f198163fd311b357a488838389b1e9b8c97d5c88e405363dcb70933a6ca2cf77", func := "loop.example/g01401/laws.FnExactSameSums", spec := "fnExactSameSums", unfollowed := true, recurses := true, apart := false }
def FnExactSameSumsSaid : Prop := fnExactSameSumsRow.holds Try.pinned (OpenSpec.ofChange fnExactSameSumsSpec)

/-- ITS FALSE NEIGHBOUR: 'it returns false'. Refute it at one input. -/
def fnExactSameSumsWrong : ChangeSpec := { name := "fnExactSameSums", fn := fun _ => fun
  | [d1, d2] => { results := [.lit (.bool false)], args := [d1, d2] }
  | _ => none }
def FnExactSameSumsWrongFalsely : Prop := fnExactSameSumsRow.holds Try.pinned (OpenSpec.ofChange fnExactSameSumsWrong)

/-- 'laws.FnExactMeanOf': WHATEVER THE INPUT: true; the input reads as it did. -/
def fnExactMeanOfSpec : ChangeSpec := { name := "fnExactMeanOf", fn := fun _ => fun
  | [d] => { results := [.lit (.bool true)], args := [d] }
  | _ => none }
def fnExactMeanOfRow : OpenClaim := { program := "ytaimbadajgjhaaa", sum := "f198163fd311b357a488838389b1e9b8c97d5c88e405363dcb70933a6ca2cf77", func := "loop.example/g01401/laws.FnExactMeanOf", spec := "fnExactMeanOf", unfollowed := true, recurses := true, apart := false }
def FnExactMeanOfSaid : Prop := fnExactMeanOfRow.holds Try.pinned (OpenSpec.ofChange fnExactMeanOfSpec)

/-- ITS FALSE NEIGHBOUR: 'it returns false'. Refute it at one input. -/
def fnExactMeanOfWrong : ChangeSpec := { name := "fnExactMeanOf", fn := fun _ => fun
  | [d] => { results := [.lit (.bool false)], args := [d] }
  | _ => none }
def FnExactMeanOfWrongFalsely : Prop := fnExactMeanOfRow.holds Try.pinned (OpenSpec.ofChange fnExactMeanOfWrong)

/-- 'laws.FnExactSpreadOf': WHATEVER THE INPUT: true; the input reads as it did. -/
def fnExactSpreadOfSpec : ChangeSpec := { name := "fnExactSpreadOf", fn := fun _ => fun
  | [d] => { results := [.lit (.bool true)], args := [d] }
  | _ => none }
def fnExactSpreadOfRow : OpenClaim := { program := "ytaimbadajgjhaaa", sum := "f198163fd311b357a488838389b1e9b8c97d5c88e405363dcb70933a6ca2cf77", func := "loop.example/g01401/laws.FnExactSpreadOf", spec := "fnExactSpreadOf", unfollowed := true, recurses := true, apart := false }
def FnExactSpreadOfSaid : Prop := fnExactSpreadOfRow.holds Try.pinned (OpenSpec.ofChange fnExactSpreadOfSpec)

/-- ITS FALSE NEIGHBOUR: 'it returns false'. Refute it at one input. -/
def fnExactSpreadOfWrong : ChangeSpec := { name := "fnExactSpreadOf", fn := fun _ => fun
  | [d] => { results := [.lit (.bool false)], args := [d] }
  | _ => none }
def FnExactSpreadOfWrongFalsely : Prop := fnExactSpreadOfRow.holds Try.pinned (OpenSpec.ofChange fnExactSpreadOfWrong)

/-- 'laws.FnExactRaceChance': WHATEVER THE INPUT: true; the input reads as it did. -/
def fnExactRaceChanceSpec : ChangeSpec := { name := "fnExactRaceChance", fn := fun _ => fun
  | [d1, d2, d3] => { results := [.lit (.bool true)], args := [d1, d2, d3] }
  | _ => none }
def fnExactRaceChanceRow : OpenClaim := { program := "ytaimbadajgjhaaa", sum := "f198163fd311b357a488838389b1e9b8c97d5c88e405363dcb70933a6ca2cf77", func := "loop.example/g01401/laws.FnExactRaceChance", spec := "fnExactRaceChance", unfollowed := true, recurses := true, apart := false }
def FnExactRaceChanceSaid : Prop := fnExactRaceChanceRow.holds Try.pinned (OpenSpec.ofChange fnExactRaceChanceSpec)

/-- ITS FALSE NEIGHBOUR: 'it returns false'. Refute it at one input. -/
def fnExactRaceChanceWrong : ChangeSpec := { name := "fnExactRaceChance", fn := fun _ => fun
  | [d1, d2, d3] => { results := [.lit (.bool false)], args := [d1, d2, d3] }
  | _ => none }
def FnExactRaceChanceWrongFalsely : Prop := fnExactRaceChanceRow.holds Try.pinned (OpenSpec.ofChange fnExactRaceChanceWrong)

/-- 'laws.FnExactRaceRolls': WHATEVER THE INPUT: true; the input reads as it did. -/
def fnExactRaceRollsSpec : ChangeSpec := { name := "fnExactRaceRolls", fn := fun _ => fun
  | [d1, d2] => { results := [.lit (.bool true)], args := [d1, d2] }
  | _ => none }
def fnExactRaceRollsRow : OpenClaim := { program := "ytaimbadajgjhaaa", sum := "f198163fd311b357a488838389b1e9b8c97d5c88e405363dcb70933a6ca2cf77", func := "loop.example/g01401/laws.FnExactRaceRolls", spec := "fnExactRaceRolls", unfollowed := true, recurses := true, apart := false }
def FnExactRaceRollsSaid : Prop := fnExactRaceRollsRow.holds Try.pinned (OpenSpec.ofChange fnExactRaceRollsSpec)

/-- ITS FALSE NEIGHBOUR: 'it returns false'. Refute it at one input. -/
def fnExactRaceRollsWrong : ChangeSpec := { name := "fnExactRaceRolls", fn := fun _ => fun
  | [d1, d2] => { results := [.lit (.bool false)], args := [d1, d2] }
  | _ => none }
def FnExactRaceRollsWrongFalsely : Prop := fnExactRaceRollsRow.holds Try.pinned (OpenSpec.ofChange fnExactRaceRollsWrong)

/-- 'laws.FnExactWordFree': WHATEVER THE INPUT: true; the input reads as it did. -/
def fnExactWordFreeSpec : ChangeSpec := { name := "fnExactWordFree", fn := fun _ => fun
  | [d1, d2, d3] => { results := [.lit (.bool true)], args := [d1, d2, d3] }
  | _ => none }
def fnExactWordFreeRow : OpenClaim := { program := "ytaimbadajgjhaaa", sum := "f198163fd311b357a488838389b1e9b8c97d5c88e405363dcb70933a6ca2cf77", func := "loop.example/g01401/laws.FnExactWordFree", spec := "fnExactWordFree", unfollowed := true, recurses := true, apart := false }
def FnExactWordFreeSaid : Prop := fnExactWordFreeRow.holds Try.pinned (OpenSpec.ofChange fnExactWordFreeSpec)

/-- ITS FALSE NEIGHBOUR: 'it returns false'. Refute it at one input. -/
def fnExactWordFreeWrong : ChangeSpec := { name := "fnExactWordFree", fn := fun _ => fun
  | [d1, d2, d3] => { results := [.lit (.bool false)], args := [d1, d2, d3] }
  | _ => none }
def FnExactWordFreeWrongFalsely : Prop := fnExactWordFreeRow.holds Try.pinned (OpenSpec.ofChange fnExactWordFreeWrong)

/-- 'laws.FnExactStreakCount': WHATEVER THE INPUT: true; the input reads as it did. -/
def fnExactStreakCountSpec : ChangeSpec := { name := "fnExactStreakCount", fn := fun _ => fun
  | [d1, d2] => { results := [.lit (.bool true)], args := [d1, d2] }
  | _ => none }
def fnExactStreakCountRow : OpenClaim := { program := "ytaimbadajgjhaaa", sum := "f198163fd311b357a488838389b1e9b8c97d5c88e405363dcb70933a6ca2cf77", func := "loop.example/g01401/laws.FnExactStreakCount", spec := "fnExactStreakCount", unfollowed := true, recurses := true, apart := false }
def FnExactStreakCountSaid : Prop := fnExactStreakCountRow.holds Try.pinned (OpenSpec.ofChange fnExactStreakCountSpec)

/-- ITS FALSE NEIGHBOUR: 'it returns false'. Refute it at one input. -/
def fnExactStreakCountWrong : ChangeSpec := { name := "fnExactStreakCount", fn := fun _ => fun
  | [d1, d2] => { results := [.lit (.bool false)], args := [d1, d2] }
  | _ => none }
def FnExactStreakCountWrongFalsely : Prop := fnExactStreakCountRow.holds Try.pinned (OpenSpec.ofChange fnExactStreakCountWrong)

/-- 'laws.FnExactStreakCounts': WHATEVER THE INPUT: true; the input reads as it did. -/
def fnExactStreakCountsSpec : ChangeSpec := { name := "fnExactStreakCounts", fn := fun _ => fun
  | [d] => { results := [.lit (.bool true)], args := [d] }
  | _ => none }
def fnExactStreakCountsRow : OpenClaim := { program := "ytaimbadajgjhaaa", sum := "f198163fd311b357a488838389b1e9b8c97d5c88e405363dcb70933a6ca2cf77", func := "loop.example/g01401/laws.FnExactStreakCounts", spec := "fnExactStreakCounts", unfollowed := true, recurses := true, apart := false }
def FnExactStreakCountsSaid : Prop := fnExactStreakCountsRow.holds Try.pinned (OpenSpec.ofChange fnExactStreakCountsSpec)

/-- ITS FALSE NEIGHBOUR: 'it returns false'. Refute it at one input. -/
def fnExactStreakCountsWrong : ChangeSpec := { name := "fnExactStreakCounts", fn := fun _ => fun
  | [d] => { results := [.lit (.bool false)], args := [d] }
  | _ => none }
def FnExactStreakCountsWrongFalsely : Prop := fnExactStreakCountsRow.holds Try.pinned (OpenSpec.ofChange fnExactStreakCountsWrong)

/-- 'laws.FnExactPoolChance': WHATEVER THE INPUT: true; the input reads as it did. -/
def fnExactPoolChanceSpec : ChangeSpec := { name := "fnExactPoolChance", fn := fun _ => fun
  | [d1, d2, d3, d4] => { results := [.lit (.bool true)], args := [d1, d2, d3, d4] }
  | _ => none }
def fnExactPoolChanceRow : OpenClaim := { program := "ytaimbadajgjhaaa", sum := "f198163fd311b357a488838389b1e9b8c97d5c88e405363dcb70933a6ca2cf77", func := "loop.example/g01401/laws.FnExactPoolChance", spec := "fnExactPoolChance", unfollowed := true, recurses := true, apart := false }
def FnExactPoolChanceSaid : Prop := fnExactPoolChanceRow.holds Try.pinned (OpenSpec.ofChange fnExactPoolChanceSpec)

/-- ITS FALSE NEIGHBOUR: 'it returns false'. Refute it at one input. -/
def fnExactPoolChanceWrong : ChangeSpec := { name := "fnExactPoolChance", fn := fun _ => fun
  | [d1, d2, d3, d4] => { results := [.lit (.bool false)], args := [d1, d2, d3, d4] }
  | _ => none }
def FnExactPoolChanceWrongFalsely : Prop := fnExactPoolChanceRow.holds Try.pinned (OpenSpec.ofChange fnExactPoolChanceWrong)

/-- 'laws.FnExactDeckOfRank': WHATEVER THE INPUT: true; the input reads as it did. -/
def fnExactDeckOfRankSpec : ChangeSpec := { name := "fnExactDeckOfRank", fn := fun _ => fun
  | [d1, d2] => { results := [.lit (.bool true)], args := [d1, d2] }
  | _ => none }
def fnExactDeckOfRankRow : OpenClaim := { program := "ytaimbadajgjhaaa", sum := "f198163fd311b357a488838389b1e9b8c97d5c88e405363dcb70933a6ca2cf77", func := "loop.example/g01401/laws.FnExactDeckOfRank", spec := "fnExactDeckOfRank", unfollowed := true, recurses := true, apart := false }
def FnExactDeckOfRankSaid : Prop := fnExactDeckOfRankRow.holds Try.pinned (OpenSpec.ofChange fnExactDeckOfRankSpec)

/-- ITS FALSE NEIGHBOUR: 'it returns false'. Refute it at one input. -/
def fnExactDeckOfRankWrong : ChangeSpec := { name := "fnExactDeckOfRank", fn := fun _ => fun
  | [d1, d2] => { results := [.lit (.bool false)], args := [d1, d2] }
  | _ => none }
def FnExactDeckOfRankWrongFalsely : Prop := fnExactDeckOfRankRow.holds Try.pinned (OpenSpec.ofChange fnExactDeckOfRankWrong)

/- THE SECOND FORM. 'bulk': how many values and letters a reading holds, each counted each time it is reached (what is shared counts as often as it is met; a slice's spare places count too). A statement '..UptoSaid' is the law's where the arguments, and the package variables that the reading takes, are together of bulk at most 1048576: NARROWER than '..Said'. Prove '..Said' where nothing that the law and all that it calls make is longer than what came in: it says more and counts as full. Else prove '..UptoSaid'. A law counts once. -/
mutual
def uptoBulk {H : Type} : DataW H → Nat
  | .lit (.string bytes) => bytes.length + 1
  | .lit _ => 1
  | .nil => 1
  | .ptr d => uptoBulk d + 1
  | .slice elems spare => uptoBulkAll elems + uptoBulkAll spare + 1
  | .agg parts => uptoBulkAll parts + 1
  | .iface _ d => uptoBulk d + 1
  | .map entries => uptoBulkEntries entries + 1
  | .held _ => 1
def uptoBulkAll {H : Type} : List (DataW H) → Nat
  | [] => 0
  | d :: r => uptoBulk d + uptoBulkAll r
def uptoBulkEntries {H : Type} : List (Lit × DataW H) → Nat
  | [] => 0
  | x :: r => uptoBulkEntry x + uptoBulkEntries r
def uptoBulkEntry {H : Type} : Lit × DataW H → Nat
  | (.string bytes, d) => bytes.length + uptoBulk d + 1
  | (_, d) => uptoBulk d + 1
 end
def uptoSmall : (H : Type) → List (DataW H) → Bool := fun _ ds => decide (uptoBulkAll ds ≤ 1048576)
def OpenSpec.upto (s : _root_.Go.ChangeSpec) : _root_.Go.OpenSpec := { _root_.Go.OpenSpec.ofChange s with cond := some uptoSmall }

/-- 'laws.FnExactValidDie', WHERE WHAT IT READS IS OF BULK AT MOST 1048576: true; the input reads as it did. -/
def fnExactValidDieUptoRow : OpenClaim := { program := "ytaimbadajgjhaaa", sum := "f198163fd311b357a488838389b1e9b8c97d5c88e405363dcb70933a6ca2cf77", func := "loop.example/g01401/laws.FnExactValidDie", spec := "fnExactValidDie", unfollowed := true, recurses := true, apart := false, narrowed := true }
def FnExactValidDieUptoSaid : Prop := fnExactValidDieUptoRow.holds Try.pinned (OpenSpec.upto fnExactValidDieSpec)

/-- 'laws.FnExactSumCounts', WHERE WHAT IT READS IS OF BULK AT MOST 1048576: true; the input reads as it did. -/
def fnExactSumCountsUptoRow : OpenClaim := { program := "ytaimbadajgjhaaa", sum := "f198163fd311b357a488838389b1e9b8c97d5c88e405363dcb70933a6ca2cf77", func := "loop.example/g01401/laws.FnExactSumCounts", spec := "fnExactSumCounts", unfollowed := true, recurses := true, apart := false, narrowed := true }
def FnExactSumCountsUptoSaid : Prop := fnExactSumCountsUptoRow.holds Try.pinned (OpenSpec.upto fnExactSumCountsSpec)

/-- 'laws.FnExactSameSums', WHERE WHAT IT READS IS OF BULK AT MOST 1048576: true; the input reads as it did. -/
def fnExactSameSumsUptoRow : OpenClaim := { program := "ytaimbadajgjhaaa", sum := "f198163fd311b357a488838389b1e9b8c97d5c88e405363dcb70933a6ca2cf77", func := "loop.example/g01401/laws.FnExactSameSums", spec := "fnExactSameSums", unfollowed := true, recurses := true, apart := false, narrowed := true }
def FnExactSameSumsUptoSaid : Prop := fnExactSameSumsUptoRow.holds Try.pinned (OpenSpec.upto fnExactSameSumsSpec)

/-- 'laws.FnExactMeanOf', WHERE WHAT IT READS IS OF BULK AT MOST 1048576: true; the input reads as it did. -/
def fnExactMeanOfUptoRow : OpenClaim := { program := "ytaimbadajgjhaaa", sum := "f198163fd311b357a488838389b1e9b8c97d5c88e405363dcb70933a6ca2cf77", func := "loop.example/g01401/laws.FnExactMeanOf", spec := "fnExactMeanOf", unfollowed := true, recurses := true, apart := false, narrowed := true }
def FnExactMeanOfUptoSaid : Prop := fnExactMeanOfUptoRow.holds Try.pinned (OpenSpec.upto fnExactMeanOfSpec)

/-- 'laws.FnExactSpreadOf', WHERE WHAT IT READS IS OF BULK AT MOST 1048576: true; the input reads as it did. -/
def fnExactSpreadOfUptoRow : OpenClaim := { program := "ytaimbadajgjhaaa", sum := "f198163fd311b357a488838389b1e9b8c97d5c88e405363dcb70933a6ca2cf77", func := "loop.example/g01401/laws.FnExactSpreadOf", spec := "fnExactSpreadOf", unfollowed := true, recurses := true, apart := false, narrowed := true }
def FnExactSpreadOfUptoSaid : Prop := fnExactSpreadOfUptoRow.holds Try.pinned (OpenSpec.upto fnExactSpreadOfSpec)

/-- 'laws.FnExactRaceChance', WHERE WHAT IT READS IS OF BULK AT MOST 1048576: true; the input reads as it did. -/
def fnExactRaceChanceUptoRow : OpenClaim := { program := "ytaimbadajgjhaaa", sum := "f198163fd311b357a488838389b1e9b8c97d5c88e405363dcb70933a6ca2cf77", func := "loop.example/g01401/laws.FnExactRaceChance", spec := "fnExactRaceChance", unfollowed := true, recurses := true, apart := false, narrowed := true }
def FnExactRaceChanceUptoSaid : Prop := fnExactRaceChanceUptoRow.holds Try.pinned (OpenSpec.upto fnExactRaceChanceSpec)

/-- 'laws.FnExactRaceRolls', WHERE WHAT IT READS IS OF BULK AT MOST 1048576: true; the input reads as it did. -/
def fnExactRaceRollsUptoRow : OpenClaim := { program := "ytaimbadajgjhaaa", sum := "f198163fd311b357a488838389b1e9b8c97d5c88e405363dcb70933a6ca2cf77", func := "loop.example/g01401/laws.FnExactRaceRolls", spec := "fnExactRaceRolls", unfollowed := true, recurses := true, apart := false, narrowed := true }
def FnExactRaceRollsUptoSaid : Prop := fnExactRaceRollsUptoRow.holds Try.pinned (OpenSpec.upto fnExactRaceRollsSpec)

/-- 'laws.FnExactWordFree', WHERE WHAT IT READS IS OF BULK AT MOST 1048576: true; the input reads as it did. -/
def fnExactWordFreeUptoRow : OpenClaim := { program := "ytaimbadajgjhaaa", sum := "f198163fd311b357a488838389b1e9b8c97d5c88e405363dcb70933a6ca2cf77", func := "loop.example/g01401/laws.FnExactWordFree", spec := "fnExactWordFree", unfollowed := true, recurses := true, apart := false, narrowed := true }
def FnExactWordFreeUptoSaid : Prop := fnExactWordFreeUptoRow.holds Try.pinned (OpenSpec.upto fnExactWordFreeSpec)

/-- 'laws.FnExactStreakCount', WHERE WHAT IT READS IS OF BULK AT MOST 1048576: true; the input reads as it did. -/
def fnExactStreakCountUptoRow : OpenClaim := { program := "ytaimbadajgjhaaa", sum := "f198163fd311b357a488838389b1e9b8c97d5c88e405363dcb70933a6ca2cf77", func := "loop.example/g01401/laws.FnExactStreakCount", spec := "fnExactStreakCount", unfollowed := true, recurses := true, apart := false, narrowed := true }
def FnExactStreakCountUptoSaid : Prop := fnExactStreakCountUptoRow.holds Try.pinned (OpenSpec.upto fnExactStreakCountSpec)

/-- 'laws.FnExactStreakCounts', WHERE WHAT IT READS IS OF BULK AT MOST 1048576: true; the input reads as it did. -/
def fnExactStreakCountsUptoRow : OpenClaim := { program := "ytaimbadajgjhaaa", sum := "f198163fd311b357a488838389b1e9b8c97d5c88e405363dcb70933a6ca2cf77", func := "loop.example/g01401/laws.FnExactStreakCounts", spec := "fnExactStreakCounts", unfollowed := true, recurses := true, apart := false, narrowed := true }
def FnExactStreakCountsUptoSaid : Prop := fnExactStreakCountsUptoRow.holds Try.pinned (OpenSpec.upto fnExactStreakCountsSpec)

/-- 'laws.FnExactPoolChance', WHERE WHAT IT READS IS OF BULK AT MOST 1048576: true; the input reads as it did. -/
def fnExactPoolChanceUptoRow : OpenClaim := { program := "ytaimbadajgjhaaa", sum := "f198163fd311b357a488838389b1e9b8c97d5c88e405363dcb70933a6ca2cf77", func := "loop.example/g01401/laws.FnExactPoolChance", spec := "fnExactPoolChance", unfollowed := true, recurses := true, apart := false, narrowed := true }
def FnExactPoolChanceUptoSaid : Prop := fnExactPoolChanceUptoRow.holds Try.pinned (OpenSpec.upto fnExactPoolChanceSpec)

/-- 'laws.FnExactDeckOfRank', WHERE WHAT IT READS IS OF BULK AT MOST 1048576: true; the input reads as it did. -/
def fnExactDeckOfRankUptoRow : OpenClaim := { program := "ytaimbadajgjhaaa", sum := "f198163fd311b357a488838389b1e9b8c97d5c88e405363dcb70933a6ca2cf77", func := "loop.example/g01401/laws.FnExactDeckOfRank", spec := "fnExactDeckOfRank", unfollowed := true, recurses := true, apart := false, narrowed := true }
def FnExactDeckOfRankUptoSaid : Prop := fnExactDeckOfRankUptoRow.holds Try.pinned (OpenSpec.upto fnExactDeckOfRankSpec)

end Rows
end Go.Proofs.Ytaimbadajgjhaaa
