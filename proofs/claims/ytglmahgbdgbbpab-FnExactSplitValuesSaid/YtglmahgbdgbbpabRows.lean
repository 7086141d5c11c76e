/-
  No cell of these rows narrows 'for every input' (looked for: loops, veiled, ifaces, maps, wideKeys, modest, calm, conditions, laid).
  DERIVED. THE GIVEN ROWS OF THIS SEAT. 12 by the template 'for every input the law returns true; each argument reads behind the call as it read before'; 0 by the template 'total and deterministic' (their statements: YtglmahgbdgbbpabTotals.lean).
  GIVEN WITH THE SEED: the statements are not yours to turn. If you find one false, say at which input.
  Laid BY PROGRAM, IN A SANDBOX (cutbox-rows.mjs): the forced cells as the released guide's own fill.sh prints them over the translation d030747da6d5e263… (all of the seat's roots in one cut). By AI agents, Wed Nov 11 2026. No macro, syntax, notation, axiom, sorry.
-/
import Derived.Test.YtglmahgbdgbbpabChecked
import GoSem.Claim
import GoSem.ClaimJoined
import GoSem.ClaimMapViews
import Derived.JoinedTies
import Derived.KernelRfl
namespace Go.Proofs.Ytglmahgbdgbbpab
/- THE CELL 'sum', in the pinned program and in every row, IS THE sha256 OF THE DUMP (.gsa) THAT YtglmahgbdgbbpabProg.lean LOADS. Nothing in Lean hashes anything: it is a label: what it is worth is what the hold of that sum in a sandbox is worth. -/
noncomputable def Try.pinned : Pinned := { name := "ytglmahgbdgbbpab", sum := "d030747da6d5e263884d8eeb297cb52f509cd3a6d802e9e84757678d92514e24", checked := Try.checked }
namespace Rows
def none {H : Type} : Left H := { results := [], args := [] }

/-- 'laws.FnExactSplitValues': WHATEVER THE INPUT: true; the input reads as it did. -/
def fnExactSplitValuesSpec : ChangeSpec := { name := "fnExactSplitValues", fn := fun _ => fun
  | [d] => { results := [.lit (.bool true)], args := [d] }
  | _ => none }
def fnExactSplitValuesRow : OpenClaim := { program := "ytglmahgbdgbbpab", sum := "d030747da6d5e263884d8eeb297cb52f509cd3a6d802e9e84757678d92514e24", func := "loop.example/g01401/laws.FnExactSplitValues", spec := "fnExactSplitValues", unfollowed := true, recurses := true, plainKeys := false, apart := false }
def FnExactSplitValuesSaid : Prop := fnExactSplitValuesRow.holds Try.pinned (OpenSpec.ofChange fnExactSplitValuesSpec)

/-- ITS FALSE NEIGHBOUR: 'it returns false'. Refute it at one input. -/
def fnExactSplitValuesWrong : ChangeSpec := { name := "fnExactSplitValues", fn := fun _ => fun
  | [d] => { results := [.lit (.bool false)], args := [d] }
  | _ => none }
def FnExactSplitValuesWrongFalsely : Prop := fnExactSplitValuesRow.holds Try.pinned (OpenSpec.ofChange fnExactSplitValuesWrong)

/-- 'laws.FnExactFarFromFull': WHATEVER THE INPUT: true; the input reads as it did. -/
def fnExactFarFromFullSpec : ChangeSpec := { name := "fnExactFarFromFull", fn := fun _ => fun
  | [d] => { results := [.lit (.bool true)], args := [d] }
  | _ => none }
def fnExactFarFromFullRow : OpenClaim := { program := "ytglmahgbdgbbpab", sum := "d030747da6d5e263884d8eeb297cb52f509cd3a6d802e9e84757678d92514e24", func := "loop.example/g01401/laws.FnExactFarFromFull", spec := "fnExactFarFromFull", unfollowed := true, recurses := true, plainKeys := false, apart := false }
def FnExactFarFromFullSaid : Prop := fnExactFarFromFullRow.holds Try.pinned (OpenSpec.ofChange fnExactFarFromFullSpec)

/-- ITS FALSE NEIGHBOUR: 'it returns false'. Refute it at one input. -/
def fnExactFarFromFullWrong : ChangeSpec := { name := "fnExactFarFromFull", fn := fun _ => fun
  | [d] => { results := [.lit (.bool false)], args := [d] }
  | _ => none }
def FnExactFarFromFullWrongFalsely : Prop := fnExactFarFromFullRow.holds Try.pinned (OpenSpec.ofChange fnExactFarFromFullWrong)

/-- 'laws.FnExactCountLines': WHATEVER THE INPUT: true; the input reads as it did. -/
def fnExactCountLinesSpec : ChangeSpec := { name := "fnExactCountLines", fn := fun _ => fun
  | [d1, d2] => { results := [.lit (.bool true)], args := [d1, d2] }
  | _ => none }
def fnExactCountLinesRow : OpenClaim := { program := "ytglmahgbdgbbpab", sum := "d030747da6d5e263884d8eeb297cb52f509cd3a6d802e9e84757678d92514e24", func := "loop.example/g01401/laws.FnExactCountLines", spec := "fnExactCountLines", unfollowed := true, recurses := true, plainKeys := false, apart := false }
def FnExactCountLinesSaid : Prop := fnExactCountLinesRow.holds Try.pinned (OpenSpec.ofChange fnExactCountLinesSpec)

/-- ITS FALSE NEIGHBOUR: 'it returns false'. Refute it at one input. -/
def fnExactCountLinesWrong : ChangeSpec := { name := "fnExactCountLines", fn := fun _ => fun
  | [d1, d2] => { results := [.lit (.bool false)], args := [d1, d2] }
  | _ => none }
def FnExactCountLinesWrongFalsely : Prop := fnExactCountLinesRow.holds Try.pinned (OpenSpec.ofChange fnExactCountLinesWrong)

/-- 'laws.FnExactPegMoves': WHATEVER THE INPUT: true; the input reads as it did. -/
def fnExactPegMovesSpec : ChangeSpec := { name := "fnExactPegMoves", fn := fun _ => fun
  | [d] => { results := [.lit (.bool true)], args := [d] }
  | _ => none }
def fnExactPegMovesRow : OpenClaim := { program := "ytglmahgbdgbbpab", sum := "d030747da6d5e263884d8eeb297cb52f509cd3a6d802e9e84757678d92514e24", func := "loop.example/g01401/laws.FnExactPegMoves", spec := "fnExactPegMoves", plainKeys := false, apart := false }
def FnExactPegMovesSaid : Prop := fnExactPegMovesRow.holds Try.pinned (OpenSpec.ofChange fnExactPegMovesSpec)

/-- ITS FALSE NEIGHBOUR: 'it returns false'. Refute it at one input. -/
def fnExactPegMovesWrong : ChangeSpec := { name := "fnExactPegMoves", fn := fun _ => fun
  | [d] => { results := [.lit (.bool false)], args := [d] }
  | _ => none }
def FnExactPegMovesWrongFalsely : Prop := fnExactPegMovesRow.holds Try.pinned (OpenSpec.ofChange fnExactPegMovesWrong)

/-- 'laws.FnExactPegLeast': WHATEVER THE INPUT: true; the input reads as it did. -/
def fnExactPegLeastSpec : ChangeSpec := { name := "fnExactPegLeast", fn := fun _ => fun
  | [d] => { results := [.lit (.bool true)], args := [d] }
  | _ => none }
def fnExactPegLeastRow : OpenClaim := { program := "ytglmahgbdgbbpab", sum := "d030747da6d5e263884d8eeb297cb52f509cd3a6d802e9e84757678d92514e24", func := "loop.example/g01401/laws.FnExactPegLeast", spec := "fnExactPegLeast", unfollowed := true, recurses := true, plainKeys := false, apart := false }
def FnExactPegLeastSaid : Prop := fnExactPegLeastRow.holds Try.pinned (OpenSpec.ofChange fnExactPegLeastSpec)

/-- ITS FALSE NEIGHBOUR: 'it returns false'. Refute it at one input. -/
def fnExactPegLeastWrong : ChangeSpec := { name := "fnExactPegLeast", fn := fun _ => fun
  | [d] => { results := [.lit (.bool false)], args := [d] }
  | _ => none }
def FnExactPegLeastWrongFalsely : Prop := fnExactPegLeastRow.holds Try.pinned (OpenSpec.ofChange fnExactPegLeastWrong)

/-- 'laws.FnExactPegLine': WHATEVER THE INPUT: true; the input reads as it did. -/
def fnExactPegLineSpec : ChangeSpec := { name := "fnExactPegLine", fn := fun _ => fun
  | [d] => { results := [.lit (.bool true)], args := [d] }
  | _ => none }
def fnExactPegLineRow : OpenClaim := { program := "ytglmahgbdgbbpab", sum := "d030747da6d5e263884d8eeb297cb52f509cd3a6d802e9e84757678d92514e24", func := "loop.example/g01401/laws.FnExactPegLine", spec := "fnExactPegLine", unfollowed := true, recurses := true, plainKeys := false, apart := false }
def FnExactPegLineSaid : Prop := fnExactPegLineRow.holds Try.pinned (OpenSpec.ofChange fnExactPegLineSpec)

/-- ITS FALSE NEIGHBOUR: 'it returns false'. Refute it at one input. -/
def fnExactPegLineWrong : ChangeSpec := { name := "fnExactPegLine", fn := fun _ => fun
  | [d] => { results := [.lit (.bool false)], args := [d] }
  | _ => none }
def FnExactPegLineWrongFalsely : Prop := fnExactPegLineRow.holds Try.pinned (OpenSpec.ofChange fnExactPegLineWrong)

/-- 'laws.FnExactPegReach': WHATEVER THE INPUT: true; the input reads as it did. -/
def fnExactPegReachSpec : ChangeSpec := { name := "fnExactPegReach", fn := fun _ => fun
  | [d] => { results := [.lit (.bool true)], args := [d] }
  | _ => none }
def fnExactPegReachRow : OpenClaim := { program := "ytglmahgbdgbbpab", sum := "d030747da6d5e263884d8eeb297cb52f509cd3a6d802e9e84757678d92514e24", func := "loop.example/g01401/laws.FnExactPegReach", spec := "fnExactPegReach", unfollowed := true, recurses := true, plainKeys := false, apart := false }
def FnExactPegReachSaid : Prop := fnExactPegReachRow.holds Try.pinned (OpenSpec.ofChange fnExactPegReachSpec)

/-- ITS FALSE NEIGHBOUR: 'it returns false'. Refute it at one input. -/
def fnExactPegReachWrong : ChangeSpec := { name := "fnExactPegReach", fn := fun _ => fun
  | [d] => { results := [.lit (.bool false)], args := [d] }
  | _ => none }
def FnExactPegReachWrongFalsely : Prop := fnExactPegReachRow.holds Try.pinned (OpenSpec.ofChange fnExactPegReachWrong)

/-- 'laws.FnExactTrickBest': WHATEVER THE INPUT: true; the input reads as it did. -/
def fnExactTrickBestSpec : ChangeSpec := { name := "fnExactTrickBest", fn := fun _ => fun
  | [d1, d2, d3, d4] => { results := [.lit (.bool true)], args := [d1, d2, d3, d4] }
  | _ => none }
def fnExactTrickBestRow : OpenClaim := { program := "ytglmahgbdgbbpab", sum := "d030747da6d5e263884d8eeb297cb52f509cd3a6d802e9e84757678d92514e24", func := "loop.example/g01401/laws.FnExactTrickBest", spec := "fnExactTrickBest", unfollowed := true, recurses := true, plainKeys := false, apart := false }
def FnExactTrickBestSaid : Prop := fnExactTrickBestRow.holds Try.pinned (OpenSpec.ofChange fnExactTrickBestSpec)

/-- ITS FALSE NEIGHBOUR: 'it returns false'. Refute it at one input. -/
def fnExactTrickBestWrong : ChangeSpec := { name := "fnExactTrickBest", fn := fun _ => fun
  | [d1, d2, d3, d4] => { results := [.lit (.bool false)], args := [d1, d2, d3, d4] }
  | _ => none }
def FnExactTrickBestWrongFalsely : Prop := fnExactTrickBestRow.holds Try.pinned (OpenSpec.ofChange fnExactTrickBestWrong)

/-- 'laws.FnExactTrickCard': WHATEVER THE INPUT: true; the input reads as it did. -/
def fnExactTrickCardSpec : ChangeSpec := { name := "fnExactTrickCard", fn := fun _ => fun
  | [d1, d2, d3, d4] => { results := [.lit (.bool true)], args := [d1, d2, d3, d4] }
  | _ => none }
def fnExactTrickCardRow : OpenClaim := { program := "ytglmahgbdgbbpab", sum := "d030747da6d5e263884d8eeb297cb52f509cd3a6d802e9e84757678d92514e24", func := "loop.example/g01401/laws.FnExactTrickCard", spec := "fnExactTrickCard", unfollowed := true, recurses := true, plainKeys := false, apart := false }
def FnExactTrickCardSaid : Prop := fnExactTrickCardRow.holds Try.pinned (OpenSpec.ofChange fnExactTrickCardSpec)

/-- ITS FALSE NEIGHBOUR: 'it returns false'. Refute it at one input. -/
def fnExactTrickCardWrong : ChangeSpec := { name := "fnExactTrickCard", fn := fun _ => fun
  | [d1, d2, d3, d4] => { results := [.lit (.bool false)], args := [d1, d2, d3, d4] }
  | _ => none }
def FnExactTrickCardWrongFalsely : Prop := fnExactTrickCardRow.holds Try.pinned (OpenSpec.ofChange fnExactTrickCardWrong)

/-- 'laws.FnExactTrickLine': WHATEVER THE INPUT: true; the input reads as it did. -/
def fnExactTrickLineSpec : ChangeSpec := { name := "fnExactTrickLine", fn := fun _ => fun
  | [d1, d2, d3, d4] => { results := [.lit (.bool true)], args := [d1, d2, d3, d4] }
  | _ => none }
def fnExactTrickLineRow : OpenClaim := { program := "ytglmahgbdgbbpab", sum := "d030747da6d5e263884d8eeb297cb52f509cd3a6d802e9e84757678d92514e24", func := "loop.example/g01401/laws.FnExactTrickLine", spec := "fnExactTrickLine", unfollowed := true, recurses := true, plainKeys := false, apart := false }
def FnExactTrickLineSaid : Prop := fnExactTrickLineRow.holds Try.pinned (OpenSpec.ofChange fnExactTrickLineSpec)

/-- ITS FALSE NEIGHBOUR: 'it returns false'. Refute it at one input. -/
def fnExactTrickLineWrong : ChangeSpec := { name := "fnExactTrickLine", fn := fun _ => fun
  | [d1, d2, d3, d4] => { results := [.lit (.bool false)], args := [d1, d2, d3, d4] }
  | _ => none }
def FnExactTrickLineWrongFalsely : Prop := fnExactTrickLineRow.holds Try.pinned (OpenSpec.ofChange fnExactTrickLineWrong)

/-- 'laws.FnExactLongestLine': WHATEVER THE INPUT: true; the input reads as it did. -/
def fnExactLongestLineSpec : ChangeSpec := { name := "fnExactLongestLine", fn := fun _ => fun
  | [d] => { results := [.lit (.bool true)], args := [d] }
  | _ => none }
def fnExactLongestLineRow : OpenClaim := { program := "ytglmahgbdgbbpab", sum := "d030747da6d5e263884d8eeb297cb52f509cd3a6d802e9e84757678d92514e24", func := "loop.example/g01401/laws.FnExactLongestLine", spec := "fnExactLongestLine", unfollowed := true, recurses := true, plainKeys := false, apart := false }
def FnExactLongestLineSaid : Prop := fnExactLongestLineRow.holds Try.pinned (OpenSpec.ofChange fnExactLongestLineSpec)

/-- ITS FALSE NEIGHBOUR: 'it returns false'. Refute it at one input. -/
def fnExactLongestLineWrong : ChangeSpec := { name := "fnExactLongestLine", fn := fun _ => fun
  | [d] => { results := [.lit (.bool false)], args := [d] }
  | _ => none }
def FnExactLongestLineWrongFalsely : Prop := fnExactLongestLineRow.holds Try.pinned (OpenSpec.ofChange fnExactLongestLineWrong)

/-- 'laws.FnExactHasTour': WHATEVER THE INPUT: true; the input reads as it did. -/
def fnExactHasTourSpec : ChangeSpec := { name := "fnExactHasTour", fn := fun _ => fun
  | [d1, d2] => { results := [.lit (.bool true)], args := [d1, d2] }
  | _ => none }
def fnExactHasTourRow : OpenClaim := { program := "ytglmahgbdgbbpab", sum := "d030747da6d5e263884d8eeb297cb52f509cd3a6d802e9e84757678d92514e24", func := "loop.example/g01401/laws.FnExactHasTour", spec := "fnExactHasTour", unfollowed := true, recurses := true, plainKeys := false, apart := false }
def FnExactHasTourSaid : Prop := fnExactHasTourRow.holds Try.pinned (OpenSpec.ofChange fnExactHasTourSpec)

/-- ITS FALSE NEIGHBOUR: 'it returns false'. Refute it at one input. -/
def fnExactHasTourWrong : ChangeSpec := { name := "fnExactHasTour", fn := fun _ => fun
  | [d1, d2] => { results := [.lit (.bool false)], args := [d1, d2] }
  | _ => none }
def FnExactHasTourWrongFalsely : Prop := fnExactHasTourRow.holds Try.pinned (OpenSpec.ofChange fnExactHasTourWrong)

/- THE SECOND FORM. 'bulk': how many values and letters a reading holds, each counted each time it is reached (what is shared counts as often as it is met; a slice's spare places count too). A statement '..UptoSaid' is the law's where the arguments, and the package variables that the reading takes, are together of bulk at most 1048576: NARROWER than '..Said'. Prove '..Said' where nothing that the law and all that it calls make is longer than what came in: it says more and counts as full. Else prove '..UptoSaid'. A law counts once. -/
mutual
def uptoBulk {H : Type} : DataW H → Nat
  | .lit (.string bytes) => bytes.length + 1
  | .lit _ => 1
  | .nil => 1
  | .ptr d => uptoBulk d + 1
  | .slice elems spare => uptoBulkAll elems + uptoBulkAll spare + 1
  | .agg parts => uptoBulkAll parts + 1
  | .iface _ d => uptoBulk d + 1
  | .map entries => uptoBulkEntries entries + 1
  | .held _ => 1
def uptoBulkAll {H : Type} : List (DataW H) → Nat
  | [] => 0
  | d :: r => uptoBulk d + uptoBulkAll r
def uptoBulkEntries {H : Type} : List (Lit × DataW H) → Nat
  | [] => 0
  | x :: r => uptoBulkEntry x + uptoBulkEntries r
def uptoBulkEntry {H : Type} : Lit × DataW H → Nat
  | (.string bytes, d) => bytes.length + uptoBulk d + 1
  | (_, d) => uptoBulk d + 1
 end
def uptoSmall : (H : Type) → List (DataW H) → Bool := fun _ ds => decide (uptoBulkAll ds ≤ 1048576)
def OpenSpec.upto (s : _root_.Go.ChangeSpec) : _root_.Go.OpenSpec := { _root_.Go.OpenSpec.ofChange s with cond := some uptoSmall }

/-- 'laws.FnExactSplitValues', WHERE WHAT IT READS IS OF BULK AT MOST 1048576: true; the input reads as it did. -/
def fnExactSplitValuesUptoRow : OpenClaim := { program := "ytglmahgbdgbbpab", sum := "d030747da6d5e263884d8eeb297cb52f509cd3a6d802e9e84757678d92514e24", func := "loop.example/g01401/laws.FnExactSplitValues", spec := "fnExactSplitValues", unfollowed := true, recurses := true, plainKeys := false, apart := false, narrowed := true }
def FnExactSplitValuesUptoSaid : Prop := fnExactSplitValuesUptoRow.holds Try.pinned (OpenSpec.upto fnExactSplitValuesSpec)

/-- 'laws.FnExactFarFromFull', WHERE WHAT IT READS IS OF BULK AT MOST 1048576: true; the input reads as it did. -/
def fnExactFarFromFullUptoRow : OpenClaim := { program := "ytglmahgbdgbbpab", sum := "d030747da6d5e263884d8eeb297cb52f509cd3a6d802e9e84757678d92514e24", func := "loop.example/g01401/laws.FnExactFarFromFull", spec := "fnExactFarFromFull", unfollowed := true, recurses := true, plainKeys := false, apart := false, narrowed := true }
def FnExactFarFromFullUptoSaid : Prop := fnExactFarFromFullUptoRow.holds Try.pinned (OpenSpec.upto fnExactFarFromFullSpec)

/-- 'laws.FnExactCountLines', WHERE WHAT IT READS IS OF BULK AT MOST 1048576: true; the input reads as it did. -/
def fnExactCountLinesUptoRow : OpenClaim := { program := "ytglmahgbdgbbpab", sum := "d030747da6d5e263884d8eeb297cb52f509cd3a6d802e9e84757678d92514e24", func := "loop.example/g01401/laws.FnExactCountLines", spec := "fnExactCountLines", unfollowed := true, recurses := true, plainKeys := false, apart := false, narrowed := true }
def FnExactCountLinesUptoSaid : Prop := fnExactCountLinesUptoRow.holds Try.pinned (OpenSpec.upto fnExactCountLinesSpec)

/-- 'laws.FnExactPegMoves', WHERE WHAT IT READS IS OF BULK AT MOST 1048576: true; the input reads as it did. -/
def fnExactPegMovesUptoRow : OpenClaim := { program := "ytglmahgbdgbbpab", sum := "d030747da6d5e263884d8eeb297cb52f509cd3a6d802e9e84757678d92514e24", func := "loop.example/g01401/laws.FnExactPegMoves", spec := "fnExactPegMoves", plainKeys := false, apart := false, narrowed := true }
def FnExactPegMovesUptoSaid : Prop := fnExactPegMovesUptoRow.holds Try.pinned (OpenSpec.upto fnExactPegMovesSpec)

/-- 'laws.FnExactPegLeast', WHERE WHAT IT READS IS OF BULK AT MOST 1048576: true; the input reads as it did. -/
def fnExactPegLeastUptoRow : OpenClaim := { program := "ytglmahgbdgbbpab", sum := "d030747da6d5e263884d8eeb297cb52f509cd3a6d802e9e84757678d92514e24", func := "loop.example/g01401/laws.FnExactPegLeast", spec := "fnExactPegLeast", unfollowed := true, recurses := true, plainKeys := false, apart := false, narrowed := true }
def FnExactPegLeastUptoSaid : Prop := fnExactPegLeastUptoRow.holds Try.pinned (OpenSpec.upto fnExactPegLeastSpec)

/-- 'laws.FnExactPegLine', WHERE WHAT IT READS IS OF BULK AT MOST 1048576: true; the input reads as it did. -/
def fnExactPegLineUptoRow : OpenClaim := { program := "ytglmahgbdgbbpab", sum := "d030747da6d5e263884d8eeb297cb52f509cd3a6d802e9e84757678d92514e24", func := "loop.example/g01401/laws.FnExactPegLine", spec := "fnExactPegLine", unfollowed := true, recurses := true, plainKeys := false, apart := false, narrowed := true }
def FnExactPegLineUptoSaid : Prop := fnExactPegLineUptoRow.holds Try.pinned (OpenSpec.upto fnExactPegLineSpec)

/-- 'laws.FnExactPegReach', WHERE WHAT IT READS IS OF BULK AT MOST 1048576: true; the input reads as it did. -/
def fnExactPegReachUptoRow : OpenClaim := { program := "ytglmahgbdgbbpab", sum := "d030747da6d5e263884d8eeb297cb52f509cd3a6d802e9e84757678d92514e24", func := "loop.example/g01401/laws.FnExactPegReach", spec := "fnExactPegReach", unfollowed := true, recurses := true, plainKeys := false, apart := false, narrowed := true }
def FnExactPegReachUptoSaid : Prop := fnExactPegReachUptoRow.holds Try.pinned (OpenSpec.upto fnExactPegReachSpec)

/-- 'laws.FnExactTrickBest', WHERE WHAT IT READS IS OF BULK AT MOST 1048576: true; the input reads as it did. -/
def fnExactTrickBestUptoRow : OpenClaim := { program := "ytglmahgbdgbbpab", sum := "d030747da6d5e263884d8eeb297cb52f509cd3a6d802e9e84757678d92514e24", func := "loop.example/g01401/laws.FnExactTrickBest", spec := "fnExactTrickBest", unfollowed := true, recurses := true, plainKeys := false, apart := false, narrowed := true }
def FnExactTrickBestUptoSaid : Prop := fnExactTrickBestUptoRow.holds Try.pinned (OpenSpec.upto fnExactTrickBestSpec)

/-- 'laws.FnExactTrickCard', WHERE WHAT IT READS IS OF BULK AT MOST 1048576: true; the input reads as it did. -/
def fnExactTrickCardUptoRow : OpenClaim := { program := "ytglmahgbdgbbpab", sum := "d030747da6d5e263884d8eeb297cb52f509cd3a6d802e9e84757678d92514e24", func := "loop.example/g01401/laws.FnExactTrickCard", spec := "fnExactTrickCard", unfollowed := true, recurses := true, plainKeys := false, apart := false, narrowed := true }
def FnExactTrickCardUptoSaid : Prop := fnExactTrickCardUptoRow.holds Try.pinned (OpenSpec.upto fnExactTrickCardSpec)

/-- 'laws.FnExactTrickLine', WHERE WHAT IT READS IS OF BULK AT MOST 1048576: true; the input reads as it did. -/
def fnExactTrickLineUptoRow : OpenClaim := { program := "ytglmahgbdgbbpab", sum := "d030747da6d5e263884d8eeb297cb52f509cd3a6d802e9e84757678d92514e24", func := "loop.example/g01401/laws.FnExactTrickLine", spec := "fnExactTrickLine", unfollowed := true, recurses := true, plainKeys := false, apart := false, narrowed := true }
def FnExactTrickLineUptoSaid : Prop := fnExactTrickLineUptoRow.holds Try.pinned (OpenSpec.upto fnExactTrickLineSpec)

/-- 'laws.FnExactLongestLine', WHERE WHAT IT READS IS OF BULK AT MOST 1048576: true; the input reads as it did. -/
def fnExactLongestLineUptoRow : OpenClaim := { program := "ytglmahgbdgbbpab", sum := "d030747da6d5e263884d8eeb297cb52f509cd3a6d802e9e84757678d92514e24", func := "loop.example/g01401/laws.FnExactLongestLine", spec := "fnExactLongestLine", unfollowed := true, recurses := true, plainKeys := false, apart := false, narrowed := true }
def FnExactLongestLineUptoSaid : Prop := fnExactLongestLineUptoRow.holds Try.pinned (OpenSpec.upto fnExactLongestLineSpec)

/-- 'laws.FnExactHasTour', WHERE WHAT IT READS IS OF BULK AT MOST 1048576: true; the input reads as it did. -/
def fnExactHasTourUptoRow : OpenClaim := { program := "ytglmahgbdgbbpab", sum := "d030747da6d5e263884d8eeb297cb52f509cd3a6d802e9e84757678d92514e24", func := "loop.example/g01401/laws.FnExactHasTour", spec := "fnExactHasTour", unfollowed := true, recurses := true, plainKeys := false, apart := false, narrowed := true }
def FnExactHasTourUptoSaid : Prop := fnExactHasTourUptoRow.holds Try.pinned (OpenSpec.upto fnExactHasTourSpec)

end Rows
end Go.Proofs.Ytglmahgbdgbbpab
