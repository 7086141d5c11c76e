/-
  No cell of these rows narrows 'for every input' (looked for: loops, veiled, ifaces, maps, wideKeys, modest, calm, conditions, laid).
  DERIVED. THE GIVEN ROWS OF THIS SEAT. 12 by the template 'for every input the law returns true; each argument reads behind the call as it read before'; 0 by the template 'total and deterministic' (their statements: YtfjokclhbbndaabTotals.lean).
  GIVEN WITH THE SEED: the statements are not yours to turn. If you find one false, say at which input.
  Laid BY PROGRAM, IN A SANDBOX (cutbox-rows.mjs): the forced cells as the released guide's own fill.sh prints them over the translation 5a3095325cb1046d… (all of the seat's roots in one cut). By AI agents, Wed Nov 11 2026. No macro, syntax, notation, axiom, sorry.
-/
import Derived.Test.YtfjokclhbbndaabChecked
import GoSem.Claim
import GoSem.ClaimJoined
import GoSem.ClaimMapViews
import Derived.JoinedTies
import Derived.KernelRfl
namespace Go.Proofs.Ytfjokclhbbndaab
/- THE CELL 'sum', in the pinned program and in every row, IS THE sha256 OF THE DUMP (.gsa) THAT YtfjokclhbbndaabProg.lean LOADS. Nothing in Lean hashes anything: it is a label: what it is worth is what the hold of that sum in a sandbox is worth. -/
noncomputable def Try.pinned : Pinned := { name := "ytfjokclhbbndaab", sum := "5a3095325cb1046d98bb5c5a9276e0008fdc49acfe0e42366fd0fa01355feae9", checked := Try.checked }
namespace Rows
def none {H : Type} : Left H := { results := [], args := [] }

/-- 'laws.FnExactBackDeck': WHATEVER THE INPUT: true; the input reads as it did. -/
def fnExactBackDeckSpec : ChangeSpec := { name := "fnExactBackDeck", fn := fun _ => fun
  | [d] => { results := [.lit (.bool true)], args := [d] }
  | _ => none }
def fnExactBackDeckRow : OpenClaim := { program := "ytfjokclhbbndaab", sum := "5a3095325cb1046d98bb5c5a9276e0008fdc49acfe0e42366fd0fa01355feae9", func := "loop.example/g01401/laws.FnExactBackDeck", spec := "fnExactBackDeck", apart := false }
def FnExactBackDeckSaid : Prop := fnExactBackDeckRow.holds Try.pinned (OpenSpec.ofChange fnExactBackDeckSpec)

/-- ITS FALSE NEIGHBOUR: 'it returns false'. Refute it at one input. -/
def fnExactBackDeckWrong : ChangeSpec := { name := "fnExactBackDeck", fn := fun _ => fun
  | [d] => { results := [.lit (.bool false)], args := [d] }
  | _ => none }
def FnExactBackDeckWrongFalsely : Prop := fnExactBackDeckRow.holds Try.pinned (OpenSpec.ofChange fnExactBackDeckWrong)

/-- 'laws.FnExactCyclesOf': WHATEVER THE INPUT: true; the input reads as it did. -/
def fnExactCyclesOfSpec : ChangeSpec := { name := "fnExactCyclesOf", fn := fun _ => fun
  | [d] => { results := [.lit (.bool true)], args := [d] }
  | _ => none }
def fnExactCyclesOfRow : OpenClaim := { program := "ytfjokclhbbndaab", sum := "5a3095325cb1046d98bb5c5a9276e0008fdc49acfe0e42366fd0fa01355feae9", func := "loop.example/g01401/laws.FnExactCyclesOf", spec := "fnExactCyclesOf", recurses := true, apart := false }
def FnExactCyclesOfSaid : Prop := fnExactCyclesOfRow.holds Try.pinned (OpenSpec.ofChange fnExactCyclesOfSpec)

/-- ITS FALSE NEIGHBOUR: 'it returns false'. Refute it at one input. -/
def fnExactCyclesOfWrong : ChangeSpec := { name := "fnExactCyclesOf", fn := fun _ => fun
  | [d] => { results := [.lit (.bool false)], args := [d] }
  | _ => none }
def FnExactCyclesOfWrongFalsely : Prop := fnExactCyclesOfRow.holds Try.pinned (OpenSpec.ofChange fnExactCyclesOfWrong)

/-- 'laws.FnExactOrderOf': WHATEVER THE INPUT: true; the input reads as it did. -/
def fnExactOrderOfSpec : ChangeSpec := { name := "fnExactOrderOf", fn := fun _ => fun
  | [d] => { results := [.lit (.bool true)], args := [d] }
  | _ => none }
def fnExactOrderOfRow : OpenClaim := { program := "ytfjokclhbbndaab", sum := "5a3095325cb1046d98bb5c5a9276e0008fdc49acfe0e42366fd0fa01355feae9", func := "loop.example/g01401/laws.FnExactOrderOf", spec := "fnExactOrderOf", recurses := true, apart := false }
def FnExactOrderOfSaid : Prop := fnExactOrderOfRow.holds Try.pinned (OpenSpec.ofChange fnExactOrderOfSpec)

/-- ITS FALSE NEIGHBOUR: 'it returns false'. Refute it at one input. -/
def fnExactOrderOfWrong : ChangeSpec := { name := "fnExactOrderOf", fn := fun _ => fun
  | [d] => { results := [.lit (.bool false)], args := [d] }
  | _ => none }
def FnExactOrderOfWrongFalsely : Prop := fnExactOrderOfRow.holds Try.pinned (OpenSpec.ofChange fnExactOrderOfWrong)

/-- 'laws.FnExactSignOf': WHATEVER THE INPUT: true; the input reads as it did. -/
def fnExactSignOfSpec : ChangeSpec := { name := "fnExactSignOf", fn := fun _ => fun
  | [d] => { results := [.lit (.bool true)], args := [d] }
  | _ => none }
def fnExactSignOfRow : OpenClaim := { program := "ytfjokclhbbndaab", sum := "5a3095325cb1046d98bb5c5a9276e0008fdc49acfe0e42366fd0fa01355feae9", func := "loop.example/g01401/laws.FnExactSignOf", spec := "fnExactSignOf", recurses := true, apart := false }
def FnExactSignOfSaid : Prop := fnExactSignOfRow.holds Try.pinned (OpenSpec.ofChange fnExactSignOfSpec)

/-- ITS FALSE NEIGHBOUR: 'it returns false'. Refute it at one input. -/
def fnExactSignOfWrong : ChangeSpec := { name := "fnExactSignOf", fn := fun _ => fun
  | [d] => { results := [.lit (.bool false)], args := [d] }
  | _ => none }
def FnExactSignOfWrongFalsely : Prop := fnExactSignOfRow.holds Try.pinned (OpenSpec.ofChange fnExactSignOfWrong)

/-- 'laws.FnExactRankOf': WHATEVER THE INPUT: true; the input reads as it did. -/
def fnExactRankOfSpec : ChangeSpec := { name := "fnExactRankOf", fn := fun _ => fun
  | [d] => { results := [.lit (.bool true)], args := [d] }
  | _ => none }
def fnExactRankOfRow : OpenClaim := { program := "ytfjokclhbbndaab", sum := "5a3095325cb1046d98bb5c5a9276e0008fdc49acfe0e42366fd0fa01355feae9", func := "loop.example/g01401/laws.FnExactRankOf", spec := "fnExactRankOf", apart := false }
def FnExactRankOfSaid : Prop := fnExactRankOfRow.holds Try.pinned (OpenSpec.ofChange fnExactRankOfSpec)

/-- ITS FALSE NEIGHBOUR: 'it returns false'. Refute it at one input. -/
def fnExactRankOfWrong : ChangeSpec := { name := "fnExactRankOf", fn := fun _ => fun
  | [d] => { results := [.lit (.bool false)], args := [d] }
  | _ => none }
def FnExactRankOfWrongFalsely : Prop := fnExactRankOfRow.holds Try.pinned (OpenSpec.ofChange fnExactRankOfWrong)

/-- 'laws.FnExactDeckOfRank': WHATEVER THE INPUT: true; the input reads as it did. -/
def fnExactDeckOfRankSpec : ChangeSpec := { name := "fnExactDeckOfRank", fn := fun _ => fun
  | [d1, d2] => { results := [.lit (.bool true)], args := [d1, d2] }
  | _ => none }
def fnExactDeckOfRankRow : OpenClaim := { program := "ytfjokclhbbndaab", sum := "5a3095325cb1046d98bb5c5a9276e0008fdc49acfe0e42366fd0fa01355feae9", func := "loop.example/g01401/laws.FnExactDeckOfRank", spec := "fnExactDeckOfRank", unfollowed := true, recurses := true, apart := false }
def FnExactDeckOfRankSaid : Prop := fnExactDeckOfRankRow.holds Try.pinned (OpenSpec.ofChange fnExactDeckOfRankSpec)

/-- ITS FALSE NEIGHBOUR: 'it returns false'. Refute it at one input. -/
def fnExactDeckOfRankWrong : ChangeSpec := { name := "fnExactDeckOfRank", fn := fun _ => fun
  | [d1, d2] => { results := [.lit (.bool false)], args := [d1, d2] }
  | _ => none }
def FnExactDeckOfRankWrongFalsely : Prop := fnExactDeckOfRankRow.holds Try.pinned (OpenSpec.ofChange fnExactDeckOfRankWrong)

/-- 'laws.FnExactDescentsOf': WHATEVER THE INPUT: true; the input reads as it did. -/
def fnExactDescentsOfSpec : ChangeSpec := { name := "fnExactDescentsOf", fn := fun _ => fun
  | [d] => { results := [.lit (.bool true)], args := [d] }
  | _ => none }
def fnExactDescentsOfRow : OpenClaim := { program := "ytfjokclhbbndaab", sum := "5a3095325cb1046d98bb5c5a9276e0008fdc49acfe0e42366fd0fa01355feae9", func := "loop.example/g01401/laws.FnExactDescentsOf", spec := "fnExactDescentsOf", apart := false }
def FnExactDescentsOfSaid : Prop := fnExactDescentsOfRow.holds Try.pinned (OpenSpec.ofChange fnExactDescentsOfSpec)

/-- ITS FALSE NEIGHBOUR: 'it returns false'. Refute it at one input. -/
def fnExactDescentsOfWrong : ChangeSpec := { name := "fnExactDescentsOf", fn := fun _ => fun
  | [d] => { results := [.lit (.bool false)], args := [d] }
  | _ => none }
def FnExactDescentsOfWrongFalsely : Prop := fnExactDescentsOfRow.holds Try.pinned (OpenSpec.ofChange fnExactDescentsOfWrong)

/-- 'laws.FnExactRisingRuns': WHATEVER THE INPUT: true; the input reads as it did. -/
def fnExactRisingRunsSpec : ChangeSpec := { name := "fnExactRisingRuns", fn := fun _ => fun
  | [d] => { results := [.lit (.bool true)], args := [d] }
  | _ => none }
def fnExactRisingRunsRow : OpenClaim := { program := "ytfjokclhbbndaab", sum := "5a3095325cb1046d98bb5c5a9276e0008fdc49acfe0e42366fd0fa01355feae9", func := "loop.example/g01401/laws.FnExactRisingRuns", spec := "fnExactRisingRuns", apart := false }
def FnExactRisingRunsSaid : Prop := fnExactRisingRunsRow.holds Try.pinned (OpenSpec.ofChange fnExactRisingRunsSpec)

/-- ITS FALSE NEIGHBOUR: 'it returns false'. Refute it at one input. -/
def fnExactRisingRunsWrong : ChangeSpec := { name := "fnExactRisingRuns", fn := fun _ => fun
  | [d] => { results := [.lit (.bool false)], args := [d] }
  | _ => none }
def FnExactRisingRunsWrongFalsely : Prop := fnExactRisingRunsRow.holds Try.pinned (OpenSpec.ofChange fnExactRisingRunsWrong)

/-- 'laws.FnExactDescentCounts': WHATEVER THE INPUT: true; the input reads as it did. -/
def fnExactDescentCountsSpec : ChangeSpec := { name := "fnExactDescentCounts", fn := fun _ => fun
  | [d] => { results := [.lit (.bool true)], args := [d] }
  | _ => none }
def fnExactDescentCountsRow : OpenClaim := { program := "ytfjokclhbbndaab", sum := "5a3095325cb1046d98bb5c5a9276e0008fdc49acfe0e42366fd0fa01355feae9", func := "loop.example/g01401/laws.FnExactDescentCounts", spec := "fnExactDescentCounts", apart := false }
def FnExactDescentCountsSaid : Prop := fnExactDescentCountsRow.holds Try.pinned (OpenSpec.ofChange fnExactDescentCountsSpec)

/-- ITS FALSE NEIGHBOUR: 'it returns false'. Refute it at one input. -/
def fnExactDescentCountsWrong : ChangeSpec := { name := "fnExactDescentCounts", fn := fun _ => fun
  | [d] => { results := [.lit (.bool false)], args := [d] }
  | _ => none }
def FnExactDescentCountsWrongFalsely : Prop := fnExactDescentCountsRow.holds Try.pinned (OpenSpec.ofChange fnExactDescentCountsWrong)

/-- 'laws.FnExactRiffleWays': WHATEVER THE INPUT: true; the input reads as it did. -/
def fnExactRiffleWaysSpec : ChangeSpec := { name := "fnExactRiffleWays", fn := fun _ => fun
  | [d1, d2, d3] => { results := [.lit (.bool true)], args := [d1, d2, d3] }
  | _ => none }
def fnExactRiffleWaysRow : OpenClaim := { program := "ytfjokclhbbndaab", sum := "5a3095325cb1046d98bb5c5a9276e0008fdc49acfe0e42366fd0fa01355feae9", func := "loop.example/g01401/laws.FnExactRiffleWays", spec := "fnExactRiffleWays", apart := false }
def FnExactRiffleWaysSaid : Prop := fnExactRiffleWaysRow.holds Try.pinned (OpenSpec.ofChange fnExactRiffleWaysSpec)

/-- ITS FALSE NEIGHBOUR: 'it returns false'. Refute it at one input. -/
def fnExactRiffleWaysWrong : ChangeSpec := { name := "fnExactRiffleWays", fn := fun _ => fun
  | [d1, d2, d3] => { results := [.lit (.bool false)], args := [d1, d2, d3] }
  | _ => none }
def FnExactRiffleWaysWrongFalsely : Prop := fnExactRiffleWaysRow.holds Try.pinned (OpenSpec.ofChange fnExactRiffleWaysWrong)

/-- 'laws.FnExactFarFromEven': WHATEVER THE INPUT: true; the input reads as it did. -/
def fnExactFarFromEvenSpec : ChangeSpec := { name := "fnExactFarFromEven", fn := fun _ => fun
  | [d1, d2] => { results := [.lit (.bool true)], args := [d1, d2] }
  | _ => none }
def fnExactFarFromEvenRow : OpenClaim := { program := "ytfjokclhbbndaab", sum := "5a3095325cb1046d98bb5c5a9276e0008fdc49acfe0e42366fd0fa01355feae9", func := "loop.example/g01401/laws.FnExactFarFromEven", spec := "fnExactFarFromEven", apart := false }
def FnExactFarFromEvenSaid : Prop := fnExactFarFromEvenRow.holds Try.pinned (OpenSpec.ofChange fnExactFarFromEvenSpec)

/-- ITS FALSE NEIGHBOUR: 'it returns false'. Refute it at one input. -/
def fnExactFarFromEvenWrong : ChangeSpec := { name := "fnExactFarFromEven", fn := fun _ => fun
  | [d1, d2] => { results := [.lit (.bool false)], args := [d1, d2] }
  | _ => none }
def FnExactFarFromEvenWrongFalsely : Prop := fnExactFarFromEvenRow.holds Try.pinned (OpenSpec.ofChange fnExactFarFromEvenWrong)

/-- 'laws.FnExactMatchCounts': WHATEVER THE INPUT: true; the input reads as it did. -/
def fnExactMatchCountsSpec : ChangeSpec := { name := "fnExactMatchCounts", fn := fun _ => fun
  | [d] => { results := [.lit (.bool true)], args := [d] }
  | _ => none }
def fnExactMatchCountsRow : OpenClaim := { program := "ytfjokclhbbndaab", sum := "5a3095325cb1046d98bb5c5a9276e0008fdc49acfe0e42366fd0fa01355feae9", func := "loop.example/g01401/laws.FnExactMatchCounts", spec := "fnExactMatchCounts", apart := false }
def FnExactMatchCountsSaid : Prop := fnExactMatchCountsRow.holds Try.pinned (OpenSpec.ofChange fnExactMatchCountsSpec)

/-- ITS FALSE NEIGHBOUR: 'it returns false'. Refute it at one input. -/
def fnExactMatchCountsWrong : ChangeSpec := { name := "fnExactMatchCounts", fn := fun _ => fun
  | [d] => { results := [.lit (.bool false)], args := [d] }
  | _ => none }
def FnExactMatchCountsWrongFalsely : Prop := fnExactMatchCountsRow.holds Try.pinned (OpenSpec.ofChange fnExactMatchCountsWrong)

/- THE SECOND FORM. 'bulk': how many values and letters a reading holds, each counted each time it is reached (what is shared counts as often as it is met; a slice's spare places count too). A statement '..UptoSaid' is the law's where the arguments, and the package variables that the reading takes, are together of bulk at most 1048576: NARROWER than '..Said'. Prove '..Said' where nothing that the law and all that it calls make is longer than what came in: it says more and counts as full. Else prove '..UptoSaid'. A law counts once. -/
mutual
def uptoBulk {H : Type} : DataW H → Nat
  | .lit (.string bytes) => bytes.length + 1
  | .lit _ => 1
  | .nil => 1
  | .ptr d => uptoBulk d + 1
  | .slice elems spare => uptoBulkAll elems + uptoBulkAll spare + 1
  | .agg parts => uptoBulkAll parts + 1
  | .iface _ d => uptoBulk d + 1
  | .map entries => uptoBulkEntries entries + 1
  | .held _ => 1
def uptoBulkAll {H : Type} : List (DataW H) → Nat
  | [] => 0
  | d :: r => uptoBulk d + uptoBulkAll r
def uptoBulkEntries {H : Type} : List (Lit × DataW H) → Nat
  | [] => 0
  | x :: r => uptoBulkEntry x + uptoBulkEntries r
def uptoBulkEntry {H : Type} : Lit × DataW H → Nat
  | (.string bytes, d) => bytes.length + uptoBulk d + 1
  | (_, d) => uptoBulk d + 1
 end
def uptoSmall : (H : Type) → List (DataW H) → Bool := fun _ ds => decide (uptoBulkAll ds ≤ 1048576)
def OpenSpec.upto (s : _root_.Go.ChangeSpec) : _root_.Go.OpenSpec := { _root_.Go.OpenSpec.ofChange s with cond := some uptoSmall }

/-- 'laws.FnExactBackDeck', WHERE WHAT IT READS IS OF BULK AT MOST 1048576: true; the input reads as it did. -/
def fnExactBackDeckUptoRow : OpenClaim := { program := "ytfjokclhbbndaab", sum := "5a3095325cb1046d98bb5c5a9276e0008fdc49acfe0e42366fd0fa01355feae9", func := "loop.example/g01401/laws.FnExactBackDeck", spec := "fnExactBackDeck", apart := false, narrowed := true }
def FnExactBackDeckUptoSaid : Prop := fnExactBackDeckUptoRow.holds Try.pinned (OpenSpec.upto fnExactBackDeckSpec)

/-- 'laws.FnExactCyclesOf', WHERE WHAT IT READS IS OF BULK AT MOST 1048576: true; the input reads as it did. -/
def fnExactCyclesOfUptoRow : OpenClaim := { program := "ytfjokclhbbndaab", sum := "5a3095325cb1046d98bb5c5a9276e0008fdc49acfe0e42366fd0fa01355feae9", func := "loop.example/g01401/laws.FnExactCyclesOf", spec := "fnExactCyclesOf", recurses := true, apart := false, narrowed := true }
def FnExactCyclesOfUptoSaid : Prop := fnExactCyclesOfUptoRow.holds Try.pinned (OpenSpec.upto fnExactCyclesOfSpec)

/-- 'laws.FnExactOrderOf', WHERE WHAT IT READS IS OF BULK AT MOST 1048576: true; the input reads as it did. -/
def fnExactOrderOfUptoRow : OpenClaim := { program := "ytfjokclhbbndaab", sum := "5a3095325cb1046d98bb5c5a9276e0008fdc49acfe0e42366fd0fa01355feae9", func := "loop.example/g01401/laws.FnExactOrderOf", spec := "fnExactOrderOf", recurses := true, apart := false, narrowed := true }
def FnExactOrderOfUptoSaid : Prop := fnExactOrderOfUptoRow.holds Try.pinned (OpenSpec.upto fnExactOrderOfSpec)

/-- 'laws.FnExactSignOf', WHERE WHAT IT READS IS OF BULK AT MOST 1048576: true; the input reads as it did. -/
def fnExactSignOfUptoRow : OpenClaim := { program := "ytfjokclhbbndaab", sum := "5a3095325cb1046d98bb5c5a9276e0008fdc49acfe0e42366fd0fa01355feae9", func := "loop.example/g01401/laws.FnExactSignOf", spec := "fnExactSignOf", recurses := true, apart := false, narrowed := true }
def FnExactSignOfUptoSaid : Prop := fnExactSignOfUptoRow.holds Try.pinned (OpenSpec.upto fnExactSignOfSpec)

/-- 'laws.FnExactRankOf', WHERE WHAT IT READS IS OF BULK AT MOST 1048576: true; the input reads as it did. -/
def fnExactRankOfUptoRow : OpenClaim := { program := "ytfjokclhbbndaab", sum := "5a3095325cb1046d98bb5c5a9276e0008fdc49acfe0e42366fd0fa01355feae9", func := "loop.example/g01401/laws.FnExactRankOf", spec := "fnExactRankOf", apart := false, narrowed := true }
def FnExactRankOfUptoSaid : Prop := fnExactRankOfUptoRow.holds Try.pinned (OpenSpec.upto fnExactRankOfSpec)

/-- 'laws.FnExactDeckOfRank', WHERE WHAT IT READS IS OF BULK AT MOST 1048576: true; the input reads as it did. -/
def fnExactDeckOfRankUptoRow : OpenClaim := { program := "ytfjokclhbbndaab", sum := "5a3095325cb1046d98bb5c5a9276e0008fdc49acfe0e42366fd0fa01355feae9", func := "loop.example/g01401/laws.FnExactDeckOfRank", spec := "fnExactDeckOfRank", unfollowed := true, recurses := true, apart := false, narrowed := true }
def FnExactDeckOfRankUptoSaid : Prop := fnExactDeckOfRankUptoRow.holds Try.pinned (OpenSpec.upto fnExactDeckOfRankSpec)

/-- 'laws.FnExactDescentsOf', WHERE WHAT IT READS IS OF BULK AT MOST 1048576: true; the input reads as it did. -/
def fnExactDescentsOfUptoRow : OpenClaim := { program := "ytfjokclhbbndaab", sum := "5a3095325cb1046d98bb5c5a9276e0008fdc49acfe0e42366fd0fa01355feae9", func := "loop.example/g01401/laws.FnExactDescentsOf", spec := "fnExactDescentsOf", apart := false, narrowed := true }
def FnExactDescentsOfUptoSaid : Prop := fnExactDescentsOfUptoRow.holds Try.pinned (OpenSpec.upto fnExactDescentsOfSpec)

/-- 'laws.FnExactRisingRuns', WHERE WHAT IT READS IS OF BULK AT MOST 1048576: true; the input reads as it did. -/
def fnExactRisingRunsUptoRow : OpenClaim := { program := "ytfjokclhbbndaab", sum := "5a3095325cb1046d98bb5c5a9276e0008fdc49acfe0e42366fd0fa01355feae9", func := "loop.example/g01401/laws.FnExactRisingRuns", spec := "fnExactRisingRuns", apart := false, narrowed := true }
def FnExactRisingRunsUptoSaid : Prop := fnExactRisingRunsUptoRow.holds Try.pinned (OpenSpec.upto fnExactRisingRunsSpec)

/-- 'laws.FnExactDescentCounts', WHERE WHAT IT READS IS OF BULK AT MOST 1048576: true; the input reads as it did. -/
def fnExactDescentCountsUptoRow : OpenClaim := { program := "ytfjokclhbbndaab", sum := "5a3095325cb1046d98bb5c5a9276e0008fdc49acfe0e42366fd0fa01355feae9", func := "loop.example/g01401/laws.FnExactDescentCounts", spec := "fnExactDescentCounts", apart := false, narrowed := true }
def FnExactDescentCountsUptoSaid : Prop := fnExactDescentCountsUptoRow.holds Try.pinned (OpenSpec.upto fnExactDescentCountsSpec)

/-- 'laws.FnExactRiffleWays', WHERE WHAT IT READS IS OF BULK AT MOST 1048576: true; the input reads as it did. -/
def fnExactRiffleWaysUptoRow : OpenClaim := { program := "ytfjokclhbbndaab", sum := "5a3095325cb1046d98bb5c5a9276e0008fdc49acfe0e42366fd0fa01355feae9", func := "loop.example/g01401/laws.FnExactRiffleWays", spec := "fnExactRiffleWays", apart := false, narrowed := true }
def FnExactRiffleWaysUptoSaid : Prop := fnExactRiffleWaysUptoRow.holds Try.pinned (OpenSpec.upto fnExactRiffleWaysSpec)

/-- 'laws.FnExactFarFromEven', WHERE WHAT IT READS IS OF BULK AT MOST 1048576: true; the input reads as it did. -/
def fnExactFarFromEvenUptoRow : OpenClaim := { program := "ytfjokclhbbndaab", sum := "5a3095325cb1046d98bb5c5a9276e0008fdc49acfe0e42366fd0fa01355feae9", func := "loop.example/g01401/laws.FnExactFarFromEven", spec := "fnExactFarFromEven", apart := false, narrowed := true }
def FnExactFarFromEvenUptoSaid : Prop := fnExactFarFromEvenUptoRow.holds Try.pinned (OpenSpec.upto fnExactFarFromEvenSpec)

/-- 'laws.FnExactMatchCounts', WHERE WHAT IT READS IS OF BULK AT MOST 1048576: true; the input reads as it did. -/
def fnExactMatchCountsUptoRow : OpenClaim := { program := "ytfjokclhbbndaab", sum := "5a3095325cb1046d98bb5c5a9276e0008fdc49acfe0e42366fd0fa01355feae9", func := "loop.example/g01401/laws.FnExactMatchCounts", spec := "fnExactMatchCounts", apart := false, narrowed := true }
def FnExactMatchCountsUptoSaid : Prop := fnExactMatchCountsUptoRow.holds Try.pinned (OpenSpec.upto fnExactMatchCountsSpec)

end Rows
end Go.Proofs.Ytfjokclhbbndaab
