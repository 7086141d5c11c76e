/-
  No cell of these rows narrows 'for every input' (looked for: loops, veiled, ifaces, maps, wideKeys, modest, calm, conditions, laid).
  DERIVED. THE GIVEN ROWS OF THIS SEAT. 12 by the template 'for every input the law returns true; each argument reads behind the call as it read before'; 0 by the template 'total and deterministic' (their statements: YtfipcpbibmhjoaaTotals.lean).
  GIVEN WITH THE SEED: the statements are not yours to turn. If you find one false, say at which input.
  Laid BY PROGRAM, IN A SANDBOX (cutbox-rows.mjs): the forced cells as the released guide's own fill.sh prints them over the translation 9e0fc7fc42547714… (all of the seat's roots in one cut). By AI agents, Wed Nov 11 2026. No macro, syntax, notation, axiom, sorry.
-/
import Derived.Test.YtfipcpbibmhjoaaChecked
import GoSem.Claim
import GoSem.ClaimJoined
import GoSem.ClaimMapViews
import Derived.JoinedTies
import Derived.KernelRfl
namespace Go.Proofs.Ytfipcpbibmhjoaa
/- THE CELL 'sum', in the pinned program and in every row, IS THE sha256 OF THE DUMP (.gsa) THAT YtfipcpbibmhjoaaProg.lean LOADS. Nothing in Lean hashes anything: it is a label: what it is worth is what the hold of that sum in a sandbox is worth. -/
noncomputable def Try.pinned : Pinned := { name := "ytfipcpbibmhjoaa", sum := "9e0fc7fc42547714a393c690a963ac765a9aebbe39403cda2fd713f72b52e914", checked := Try.checked }
namespace Rows
def none {H : Type} : Left H := { results := [], args := [] }

/-- 'laws.FnExactAreGames': WHATEVER THE INPUT: true; the input reads as it did. -/
def fnExactAreGamesSpec : ChangeSpec := { name := "fnExactAreGames", fn := fun _ => fun
  | [d1, d2] => { results := [.lit (.bool true)], args := [d1, d2] }
  | _ => none }
def fnExactAreGamesRow : OpenClaim := { program := "ytfipcpbibmhjoaa", sum := "9e0fc7fc42547714a393c690a963ac765a9aebbe39403cda2fd713f72b52e914", func := "loop.example/g01401/laws.FnExactAreGames", spec := "fnExactAreGames", unfollowed := true, recurses := true, apart := false }
def FnExactAreGamesSaid : Prop := fnExactAreGamesRow.holds Try.pinned (OpenSpec.ofChange fnExactAreGamesSpec)

/-- ITS FALSE NEIGHBOUR: 'it returns false'. Refute it at one input. -/
def fnExactAreGamesWrong : ChangeSpec := { name := "fnExactAreGames", fn := fun _ => fun
  | [d1, d2] => { results := [.lit (.bool false)], args := [d1, d2] }
  | _ => none }
def FnExactAreGamesWrongFalsely : Prop := fnExactAreGamesRow.holds Try.pinned (OpenSpec.ofChange fnExactAreGamesWrong)

/-- 'laws.FnExactSameGames': WHATEVER THE INPUT: true; the input reads as it did. -/
def fnExactSameGamesSpec : ChangeSpec := { name := "fnExactSameGames", fn := fun _ => fun
  | [d1, d2] => { results := [.lit (.bool true)], args := [d1, d2] }
  | _ => none }
def fnExactSameGamesRow : OpenClaim := { program := "ytfipcpbibmhjoaa", sum := "9e0fc7fc42547714a393c690a963ac765a9aebbe39403cda2fd713f72b52e914", func := "loop.example/g01401/laws.FnExactSameGames", spec := "fnExactSameGames", apart := false }
def FnExactSameGamesSaid : Prop := fnExactSameGamesRow.holds Try.pinned (OpenSpec.ofChange fnExactSameGamesSpec)

/-- ITS FALSE NEIGHBOUR: 'it returns false'. Refute it at one input. -/
def fnExactSameGamesWrong : ChangeSpec := { name := "fnExactSameGames", fn := fun _ => fun
  | [d1, d2] => { results := [.lit (.bool false)], args := [d1, d2] }
  | _ => none }
def FnExactSameGamesWrongFalsely : Prop := fnExactSameGamesRow.holds Try.pinned (OpenSpec.ofChange fnExactSameGamesWrong)

/-- 'laws.FnExactScoresOf': WHATEVER THE INPUT: true; the input reads as it did. -/
def fnExactScoresOfSpec : ChangeSpec := { name := "fnExactScoresOf", fn := fun _ => fun
  | [d1, d2] => { results := [.lit (.bool true)], args := [d1, d2] }
  | _ => none }
def fnExactScoresOfRow : OpenClaim := { program := "ytfipcpbibmhjoaa", sum := "9e0fc7fc42547714a393c690a963ac765a9aebbe39403cda2fd713f72b52e914", func := "loop.example/g01401/laws.FnExactScoresOf", spec := "fnExactScoresOf", unfollowed := true, recurses := true, apart := false }
def FnExactScoresOfSaid : Prop := fnExactScoresOfRow.holds Try.pinned (OpenSpec.ofChange fnExactScoresOfSpec)

/-- ITS FALSE NEIGHBOUR: 'it returns false'. Refute it at one input. -/
def fnExactScoresOfWrong : ChangeSpec := { name := "fnExactScoresOf", fn := fun _ => fun
  | [d1, d2] => { results := [.lit (.bool false)], args := [d1, d2] }
  | _ => none }
def FnExactScoresOfWrongFalsely : Prop := fnExactScoresOfRow.holds Try.pinned (OpenSpec.ofChange fnExactScoresOfWrong)

/-- 'laws.FnExactMetOf': WHATEVER THE INPUT: true; the input reads as it did. -/
def fnExactMetOfSpec : ChangeSpec := { name := "fnExactMetOf", fn := fun _ => fun
  | [d1, d2] => { results := [.lit (.bool true)], args := [d1, d2] }
  | _ => none }
def fnExactMetOfRow : OpenClaim := { program := "ytfipcpbibmhjoaa", sum := "9e0fc7fc42547714a393c690a963ac765a9aebbe39403cda2fd713f72b52e914", func := "loop.example/g01401/laws.FnExactMetOf", spec := "fnExactMetOf", unfollowed := true, recurses := true, apart := false }
def FnExactMetOfSaid : Prop := fnExactMetOfRow.holds Try.pinned (OpenSpec.ofChange fnExactMetOfSpec)

/-- ITS FALSE NEIGHBOUR: 'it returns false'. Refute it at one input. -/
def fnExactMetOfWrong : ChangeSpec := { name := "fnExactMetOf", fn := fun _ => fun
  | [d1, d2] => { results := [.lit (.bool false)], args := [d1, d2] }
  | _ => none }
def FnExactMetOfWrongFalsely : Prop := fnExactMetOfRow.holds Try.pinned (OpenSpec.ofChange fnExactMetOfWrong)

/-- 'laws.FnExactBuchholzOf': WHATEVER THE INPUT: true; the input reads as it did. -/
def fnExactBuchholzOfSpec : ChangeSpec := { name := "fnExactBuchholzOf", fn := fun _ => fun
  | [d1, d2] => { results := [.lit (.bool true)], args := [d1, d2] }
  | _ => none }
def fnExactBuchholzOfRow : OpenClaim := { program := "ytfipcpbibmhjoaa", sum := "9e0fc7fc42547714a393c690a963ac765a9aebbe39403cda2fd713f72b52e914", func := "loop.example/g01401/laws.FnExactBuchholzOf", spec := "fnExactBuchholzOf", unfollowed := true, recurses := true, apart := false }
def FnExactBuchholzOfSaid : Prop := fnExactBuchholzOfRow.holds Try.pinned (OpenSpec.ofChange fnExactBuchholzOfSpec)

/-- ITS FALSE NEIGHBOUR: 'it returns false'. Refute it at one input. -/
def fnExactBuchholzOfWrong : ChangeSpec := { name := "fnExactBuchholzOf", fn := fun _ => fun
  | [d1, d2] => { results := [.lit (.bool false)], args := [d1, d2] }
  | _ => none }
def FnExactBuchholzOfWrongFalsely : Prop := fnExactBuchholzOfRow.holds Try.pinned (OpenSpec.ofChange fnExactBuchholzOfWrong)

/-- 'laws.FnExactAreTiles': WHATEVER THE INPUT: true; the input reads as it did. -/
def fnExactAreTilesSpec : ChangeSpec := { name := "fnExactAreTiles", fn := fun _ => fun
  | [d] => { results := [.lit (.bool true)], args := [d] }
  | _ => none }
def fnExactAreTilesRow : OpenClaim := { program := "ytfipcpbibmhjoaa", sum := "9e0fc7fc42547714a393c690a963ac765a9aebbe39403cda2fd713f72b52e914", func := "loop.example/g01401/laws.FnExactAreTiles", spec := "fnExactAreTiles", unfollowed := true, recurses := true, apart := false }
def FnExactAreTilesSaid : Prop := fnExactAreTilesRow.holds Try.pinned (OpenSpec.ofChange fnExactAreTilesSpec)

/-- ITS FALSE NEIGHBOUR: 'it returns false'. Refute it at one input. -/
def fnExactAreTilesWrong : ChangeSpec := { name := "fnExactAreTiles", fn := fun _ => fun
  | [d] => { results := [.lit (.bool false)], args := [d] }
  | _ => none }
def FnExactAreTilesWrongFalsely : Prop := fnExactAreTilesRow.holds Try.pinned (OpenSpec.ofChange fnExactAreTilesWrong)

/-- 'laws.FnExactSameTiles': WHATEVER THE INPUT: true; the input reads as it did. -/
def fnExactSameTilesSpec : ChangeSpec := { name := "fnExactSameTiles", fn := fun _ => fun
  | [d1, d2] => { results := [.lit (.bool true)], args := [d1, d2] }
  | _ => none }
def fnExactSameTilesRow : OpenClaim := { program := "ytfipcpbibmhjoaa", sum := "9e0fc7fc42547714a393c690a963ac765a9aebbe39403cda2fd713f72b52e914", func := "loop.example/g01401/laws.FnExactSameTiles", spec := "fnExactSameTiles", apart := false }
def FnExactSameTilesSaid : Prop := fnExactSameTilesRow.holds Try.pinned (OpenSpec.ofChange fnExactSameTilesSpec)

/-- ITS FALSE NEIGHBOUR: 'it returns false'. Refute it at one input. -/
def fnExactSameTilesWrong : ChangeSpec := { name := "fnExactSameTiles", fn := fun _ => fun
  | [d1, d2] => { results := [.lit (.bool false)], args := [d1, d2] }
  | _ => none }
def FnExactSameTilesWrongFalsely : Prop := fnExactSameTilesRow.holds Try.pinned (OpenSpec.ofChange fnExactSameTilesWrong)

/-- 'laws.FnExactValidTest': WHATEVER THE INPUT: true; the input reads as it did. -/
def fnExactValidTestSpec : ChangeSpec := { name := "fnExactValidTest", fn := fun _ => fun
  | [d] => { results := [.lit (.bool true)], args := [d] }
  | _ => none }
def fnExactValidTestRow : OpenClaim := { program := "ytfipcpbibmhjoaa", sum := "9e0fc7fc42547714a393c690a963ac765a9aebbe39403cda2fd713f72b52e914", func := "loop.example/g01401/laws.FnExactValidTest", spec := "fnExactValidTest", apart := false }
def FnExactValidTestSaid : Prop := fnExactValidTestRow.holds Try.pinned (OpenSpec.ofChange fnExactValidTestSpec)

/-- ITS FALSE NEIGHBOUR: 'it returns false'. Refute it at one input. -/
def fnExactValidTestWrong : ChangeSpec := { name := "fnExactValidTest", fn := fun _ => fun
  | [d] => { results := [.lit (.bool false)], args := [d] }
  | _ => none }
def FnExactValidTestWrongFalsely : Prop := fnExactValidTestRow.holds Try.pinned (OpenSpec.ofChange fnExactValidTestWrong)

/-- 'laws.FnExactPassesTests': WHATEVER THE INPUT: true; the input reads as it did. -/
def fnExactPassesTestsSpec : ChangeSpec := { name := "fnExactPassesTests", fn := fun _ => fun
  | [d1, d2] => { results := [.lit (.bool true)], args := [d1, d2] }
  | _ => none }
def fnExactPassesTestsRow : OpenClaim := { program := "ytfipcpbibmhjoaa", sum := "9e0fc7fc42547714a393c690a963ac765a9aebbe39403cda2fd713f72b52e914", func := "loop.example/g01401/laws.FnExactPassesTests", spec := "fnExactPassesTests", unfollowed := true, recurses := true, apart := false }
def FnExactPassesTestsSaid : Prop := fnExactPassesTestsRow.holds Try.pinned (OpenSpec.ofChange fnExactPassesTestsSpec)

/-- ITS FALSE NEIGHBOUR: 'it returns false'. Refute it at one input. -/
def fnExactPassesTestsWrong : ChangeSpec := { name := "fnExactPassesTests", fn := fun _ => fun
  | [d1, d2] => { results := [.lit (.bool false)], args := [d1, d2] }
  | _ => none }
def FnExactPassesTestsWrongFalsely : Prop := fnExactPassesTestsRow.holds Try.pinned (OpenSpec.ofChange fnExactPassesTestsWrong)

/-- 'laws.FnExactCountPassing': WHATEVER THE INPUT: true; the input reads as it did. -/
def fnExactCountPassingSpec : ChangeSpec := { name := "fnExactCountPassing", fn := fun _ => fun
  | [d1, d2] => { results := [.lit (.bool true)], args := [d1, d2] }
  | _ => none }
def fnExactCountPassingRow : OpenClaim := { program := "ytfipcpbibmhjoaa", sum := "9e0fc7fc42547714a393c690a963ac765a9aebbe39403cda2fd713f72b52e914", func := "loop.example/g01401/laws.FnExactCountPassing", spec := "fnExactCountPassing", unfollowed := true, recurses := true, apart := false }
def FnExactCountPassingSaid : Prop := fnExactCountPassingRow.holds Try.pinned (OpenSpec.ofChange fnExactCountPassingSpec)

/-- ITS FALSE NEIGHBOUR: 'it returns false'. Refute it at one input. -/
def fnExactCountPassingWrong : ChangeSpec := { name := "fnExactCountPassing", fn := fun _ => fun
  | [d1, d2] => { results := [.lit (.bool false)], args := [d1, d2] }
  | _ => none }
def FnExactCountPassingWrongFalsely : Prop := fnExactCountPassingRow.holds Try.pinned (OpenSpec.ofChange fnExactCountPassingWrong)

/-- 'laws.FnExactKnockRounds': WHATEVER THE INPUT: true; the input reads as it did. -/
def fnExactKnockRoundsSpec : ChangeSpec := { name := "fnExactKnockRounds", fn := fun _ => fun
  | [d1, d2] => { results := [.lit (.bool true)], args := [d1, d2] }
  | _ => none }
def fnExactKnockRoundsRow : OpenClaim := { program := "ytfipcpbibmhjoaa", sum := "9e0fc7fc42547714a393c690a963ac765a9aebbe39403cda2fd713f72b52e914", func := "loop.example/g01401/laws.FnExactKnockRounds", spec := "fnExactKnockRounds", unfollowed := true, recurses := true, apart := false }
def FnExactKnockRoundsSaid : Prop := fnExactKnockRoundsRow.holds Try.pinned (OpenSpec.ofChange fnExactKnockRoundsSpec)

/-- ITS FALSE NEIGHBOUR: 'it returns false'. Refute it at one input. -/
def fnExactKnockRoundsWrong : ChangeSpec := { name := "fnExactKnockRounds", fn := fun _ => fun
  | [d1, d2] => { results := [.lit (.bool false)], args := [d1, d2] }
  | _ => none }
def FnExactKnockRoundsWrongFalsely : Prop := fnExactKnockRoundsRow.holds Try.pinned (OpenSpec.ofChange fnExactKnockRoundsWrong)

/-- 'laws.FnExactTieOrder': WHATEVER THE INPUT: true; the input reads as it did. -/
def fnExactTieOrderSpec : ChangeSpec := { name := "fnExactTieOrder", fn := fun _ => fun
  | [d1, d2] => { results := [.lit (.bool true)], args := [d1, d2] }
  | _ => none }
def fnExactTieOrderRow : OpenClaim := { program := "ytfipcpbibmhjoaa", sum := "9e0fc7fc42547714a393c690a963ac765a9aebbe39403cda2fd713f72b52e914", func := "loop.example/g01401/laws.FnExactTieOrder", spec := "fnExactTieOrder", unfollowed := true, recurses := true, apart := false }
def FnExactTieOrderSaid : Prop := fnExactTieOrderRow.holds Try.pinned (OpenSpec.ofChange fnExactTieOrderSpec)

/-- ITS FALSE NEIGHBOUR: 'it returns false'. Refute it at one input. -/
def fnExactTieOrderWrong : ChangeSpec := { name := "fnExactTieOrder", fn := fun _ => fun
  | [d1, d2] => { results := [.lit (.bool false)], args := [d1, d2] }
  | _ => none }
def FnExactTieOrderWrongFalsely : Prop := fnExactTieOrderRow.holds Try.pinned (OpenSpec.ofChange fnExactTieOrderWrong)

/- THE SECOND FORM. 'bulk': how many values and letters a reading holds, each counted each time it is reached (what is shared counts as often as it is met; a slice's spare places count too). A statement '..UptoSaid' is the law's where the arguments, and the package variables that the reading takes, are together of bulk at most 1048576: NARROWER than '..Said'. Prove '..Said' where nothing that the law and all that it calls make is longer than what came in: it says more and counts as full. Else prove '..UptoSaid'. A law counts once. -/
mutual
def uptoBulk {H : Type} : DataW H → Nat
  | .lit (.string bytes) => bytes.length + 1
  | .lit _ => 1
  | .nil => 1
  | .ptr d => uptoBulk d + 1
  | .slice elems spare => uptoBulkAll elems + uptoBulkAll spare + 1
  | .agg parts => uptoBulkAll parts + 1
  | .iface _ d => uptoBulk d + 1
  | .map entries => uptoBulkEntries entries + 1
  | .held _ => 1
def uptoBulkAll {H : Type} : List (DataW H) → Nat
  | [] => 0
  | d :: r => uptoBulk d + uptoBulkAll r
def uptoBulkEntries {H : Type} : List (Lit × DataW H) → Nat
  | [] => 0
  | x :: r => uptoBulkEntry x + uptoBulkEntries r
def uptoBulkEntry {H : Type} : Lit × DataW H → Nat
  | (.string bytes, d) => bytes.length + uptoBulk d + 1
  | (_, d) => uptoBulk d + 1
 end
def uptoSmall : (H : Type) → List (DataW H) → Bool := fun _ ds => decide (uptoBulkAll ds ≤ 1048576)
def OpenSpec.upto (s : _root_.Go.ChangeSpec) : _root_.Go.OpenSpec := { _root_.Go.OpenSpec.ofChange s with cond := some uptoSmall }

/-- 'laws.FnExactAreGames', WHERE WHAT IT READS IS OF BULK AT MOST 1048576: true; the input reads as it did. -/
def fnExactAreGamesUptoRow : OpenClaim := { program := "ytfipcpbibmhjoaa", sum := "9e0fc7fc42547714a393c690a963ac765a9aebbe39403cda2fd713f72b52e914", func := "loop.example/g01401/laws.FnExactAreGames", spec := "fnExactAreGames", unfollowed := true, recurses := true, apart := false, narrowed := true }
def FnExactAreGamesUptoSaid : Prop := fnExactAreGamesUptoRow.holds Try.pinned (OpenSpec.upto fnExactAreGamesSpec)

/-- 'laws.FnExactSameGames', WHERE WHAT IT READS IS OF BULK AT MOST 1048576: true; the input reads as it did. -/
def fnExactSameGamesUptoRow : OpenClaim := { program := "ytfipcpbibmhjoaa", sum := "9e0fc7fc42547714a393c690a963ac765a9aebbe39403cda2fd713f72b52e914", func := "loop.example/g01401/laws.FnExactSameGames", spec := "fnExactSameGames", apart := false, narrowed := true }
def FnExactSameGamesUptoSaid : Prop := fnExactSameGamesUptoRow.holds Try.pinned (OpenSpec.upto fnExactSameGamesSpec)

/-- 'laws.FnExactScoresOf', WHERE WHAT IT READS IS OF BULK AT MOST 1048576: true; the input reads as it did. -/
def fnExactScoresOfUptoRow : OpenClaim := { program := "ytfipcpbibmhjoaa", sum := "9e0fc7fc42547714a393c690a963ac765a9aebbe39403cda2fd713f72b52e914", func := "loop.example/g01401/laws.FnExactScoresOf", spec := "fnExactScoresOf", unfollowed := true, recurses := true, apart := false, narrowed := true }
def FnExactScoresOfUptoSaid : Prop := fnExactScoresOfUptoRow.holds Try.pinned (OpenSpec.upto fnExactScoresOfSpec)

/-- 'laws.FnExactMetOf', WHERE WHAT IT READS IS OF BULK AT MOST 1048576: true; the input reads as it did. -/
def fnExactMetOfUptoRow : OpenClaim := { program := "ytfipcpbibmhjoaa", sum := "9e0fc7fc42547714a393c690a963ac765a9aebbe39403cda2fd713f72b52e914", func := "loop.example/g01401/laws.FnExactMetOf", spec := "fnExactMetOf", unfollowed := true, recurses := true, apart := false, narrowed := true }
def FnExactMetOfUptoSaid : Prop := fnExactMetOfUptoRow.holds Try.pinned (OpenSpec.upto fnExactMetOfSpec)

/-- 'laws.FnExactBuchholzOf', WHERE WHAT IT READS IS OF BULK AT MOST 1048576: true; the input reads as it did. -/
def fnExactBuchholzOfUptoRow : OpenClaim := { program := "ytfipcpbibmhjoaa", sum := "9e0fc7fc42547714a393c690a963ac765a9aebbe39403cda2fd713f72b52e914", func := "loop.example/g01401/laws.FnExactBuchholzOf", spec := "fnExactBuchholzOf", unfollowed := true, recurses := true, apart := false, narrowed := true }
def FnExactBuchholzOfUptoSaid : Prop := fnExactBuchholzOfUptoRow.holds Try.pinned (OpenSpec.upto fnExactBuchholzOfSpec)

/-- 'laws.FnExactAreTiles', WHERE WHAT IT READS IS OF BULK AT MOST 1048576: true; the input reads as it did. -/
def fnExactAreTilesUptoRow : OpenClaim := { program := "ytfipcpbibmhjoaa", sum := "9e0fc7fc42547714a393c690a963ac765a9aebbe39403cda2fd713f72b52e914", func := "loop.example/g01401/laws.FnExactAreTiles", spec := "fnExactAreTiles", unfollowed := true, recurses := true, apart := false, narrowed := true }
def FnExactAreTilesUptoSaid : Prop := fnExactAreTilesUptoRow.holds Try.pinned (OpenSpec.upto fnExactAreTilesSpec)

/-- 'laws.FnExactSameTiles', WHERE WHAT IT READS IS OF BULK AT MOST 1048576: true; the input reads as it did. -/
def fnExactSameTilesUptoRow : OpenClaim := { program := "ytfipcpbibmhjoaa", sum := "9e0fc7fc42547714a393c690a963ac765a9aebbe39403cda2fd713f72b52e914", func := "loop.example/g01401/laws.FnExactSameTiles", spec := "fnExactSameTiles", apart := false, narrowed := true }
def FnExactSameTilesUptoSaid : Prop := fnExactSameTilesUptoRow.holds Try.pinned (OpenSpec.upto fnExactSameTilesSpec)

/-- 'laws.FnExactValidTest', WHERE WHAT IT READS IS OF BULK AT MOST 1048576: true; the input reads as it did. -/
def fnExactValidTestUptoRow : OpenClaim := { program := "ytfipcpbibmhjoaa", sum := "9e0fc7fc42547714a393c690a963ac765a9aebbe39403cda2fd713f72b52e914", func := "loop.example/g01401/laws.FnExactValidTest", spec := "fnExactValidTest", apart := false, narrowed := true }
def FnExactValidTestUptoSaid : Prop := fnExactValidTestUptoRow.holds Try.pinned (OpenSpec.upto fnExactValidTestSpec)

/-- 'laws.FnExactPassesTests', WHERE WHAT IT READS IS OF BULK AT MOST 1048576: true; the input reads as it did. -/
def fnExactPassesTestsUptoRow : OpenClaim := { program := "ytfipcpbibmhjoaa", sum := "9e0fc7fc42547714a393c690a963ac765a9aebbe39403cda2fd713f72b52e914", func := "loop.example/g01401/laws.FnExactPassesTests", spec := "fnExactPassesTests", unfollowed := true, recurses := true, apart := false, narrowed := true }
def FnExactPassesTestsUptoSaid : Prop := fnExactPassesTestsUptoRow.holds Try.pinned (OpenSpec.upto fnExactPassesTestsSpec)

/-- 'laws.FnExactCountPassing', WHERE WHAT IT READS IS OF BULK AT MOST 1048576: true; the input reads as it did. -/
def fnExactCountPassingUptoRow : OpenClaim := { program := "ytfipcpbibmhjoaa", sum := "9e0fc7fc42547714a393c690a963ac765a9aebbe39403cda2fd713f72b52e914", func := "loop.example/g01401/laws.FnExactCountPassing", spec := "fnExactCountPassing", unfollowed := true, recurses := true, apart := false, narrowed := true }
def FnExactCountPassingUptoSaid : Prop := fnExactCountPassingUptoRow.holds Try.pinned (OpenSpec.upto fnExactCountPassingSpec)

/-- 'laws.FnExactKnockRounds', WHERE WHAT IT READS IS OF BULK AT MOST 1048576: true; the input reads as it did. -/
def fnExactKnockRoundsUptoRow : OpenClaim := { program := "ytfipcpbibmhjoaa", sum := "9e0fc7fc42547714a393c690a963ac765a9aebbe39403cda2fd713f72b52e914", func := "loop.example/g01401/laws.FnExactKnockRounds", spec := "fnExactKnockRounds", unfollowed := true, recurses := true, apart := false, narrowed := true }
def FnExactKnockRoundsUptoSaid : Prop := fnExactKnockRoundsUptoRow.holds Try.pinned (OpenSpec.upto fnExactKnockRoundsSpec)

/-- 'laws.FnExactTieOrder', WHERE WHAT IT READS IS OF BULK AT MOST 1048576: true; the input reads as it did. -/
def fnExactTieOrderUptoRow : OpenClaim := { program := "ytfipcpbibmhjoaa", sum := "9e0fc7fc42547714a393c690a963ac765a9aebbe39403cda2fd713f72b52e914", func := "loop.example/g01401/laws.FnExactTieOrder", spec := "fnExactTieOrder", unfollowed := true, recurses := true, apart := false, narrowed := true }
def FnExactTieOrderUptoSaid : Prop := fnExactTieOrderUptoRow.holds Try.pinned (OpenSpec.upto fnExactTieOrderSpec)

end Rows
end Go.Proofs.Ytfipcpbibmhjoaa
