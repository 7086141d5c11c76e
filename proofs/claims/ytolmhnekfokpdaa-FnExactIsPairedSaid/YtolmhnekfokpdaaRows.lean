/-
  No cell of these rows narrows 'for every input' (looked for: loops, veiled, ifaces, maps, wideKeys, modest, calm, conditions, laid).
  DERIVED. THE GIVEN ROWS OF THIS SEAT. 12 by the template 'for every input the law returns true; each argument reads behind the call as it read before'; 0 by the template 'total and deterministic' (their statements: YtolmhnekfokpdaaTotals.lean).
  GIVEN WITH THE SEED: the statements are not yours to turn. If you find one false, say at which input.
  Laid BY PROGRAM, IN A SANDBOX (cutbox-rows.mjs): the forced cells as the released guide's own fill.sh prints them over the translation 84b8166704ac35aa… (all of the seat's roots in one cut). By AI agents, Wed Nov 11 2026. No macro, syntax, notation, axiom, sorry.
-/
import Derived.Test.YtolmhnekfokpdaaChecked
import GoSem.Claim
import GoSem.ClaimJoined
import GoSem.ClaimMapViews
import Derived.JoinedTies
import Derived.KernelRfl
namespace Go.Proofs.Ytolmhnekfokpdaa
/- THE CELL 'sum', in the pinned program and in every row, IS THE sha256 OF THE DUMP (.gsa) THAT YtolmhnekfokpdaaProg.lean LOADS. Nothing in Lean hashes anything: it is a label: what it is worth is what the hold of that sum in a sandbox is worth. -/
noncomputable def Try.pinned : Pinned := { name := "ytolmhnekfokpdaa", sum := "84b8166704ac35aa0cb3dd5165bc92e3971f606e41ed132a94f27da081681beb", checked := Try.checked }
namespace Rows
def none {H : Type} : Left H := { results := [], args := [] }

/-- 'laws.FnExactIsPaired': WHATEVER THE INPUT: true; the input reads as it did. -/
def fnExactIsPairedSpec : ChangeSpec := { name := "fnExactIsPaired", fn := fun _ => fun
  | [d1, d2] => { results := [.lit (.bool true)], args := [d1, d2] }
  | _ => none }
def fnExactIsPairedRow : OpenClaim := { program := "ytolmhnekfokpdaa", sum := "84b8166704ac35aa0cb3dd5165bc92e3971f606e41ed132a94f27da081681beb", func := "loop.example/g01401/laws.FnExactIsPaired", spec := "fnExactIsPaired", unfollowed := true, recurses := true, apart := false }
def FnExactIsPairedSaid : Prop := fnExactIsPairedRow.holds Try.pinned (OpenSpec.ofChange fnExactIsPairedSpec)

/-- ITS FALSE NEIGHBOUR: 'it returns false'. Refute it at one input. -/
def fnExactIsPairedWrong : ChangeSpec := { name := "fnExactIsPaired", fn := fun _ => fun
  | [d1, d2] => { results := [.lit (.bool false)], args := [d1, d2] }
  | _ => none }
def FnExactIsPairedWrongFalsely : Prop := fnExactIsPairedRow.holds Try.pinned (OpenSpec.ofChange fnExactIsPairedWrong)

/-- 'laws.FnExactWeighCoins': WHATEVER THE INPUT: true; the input reads as it did. -/
def fnExactWeighCoinsSpec : ChangeSpec := { name := "fnExactWeighCoins", fn := fun _ => fun
  | [d1, d2, d3] => { results := [.lit (.bool true)], args := [d1, d2, d3] }
  | _ => none }
def fnExactWeighCoinsRow : OpenClaim := { program := "ytolmhnekfokpdaa", sum := "84b8166704ac35aa0cb3dd5165bc92e3971f606e41ed132a94f27da081681beb", func := "loop.example/g01401/laws.FnExactWeighCoins", spec := "fnExactWeighCoins", unfollowed := true, recurses := true, apart := false }
def FnExactWeighCoinsSaid : Prop := fnExactWeighCoinsRow.holds Try.pinned (OpenSpec.ofChange fnExactWeighCoinsSpec)

/-- ITS FALSE NEIGHBOUR: 'it returns false'. Refute it at one input. -/
def fnExactWeighCoinsWrong : ChangeSpec := { name := "fnExactWeighCoins", fn := fun _ => fun
  | [d1, d2, d3] => { results := [.lit (.bool false)], args := [d1, d2, d3] }
  | _ => none }
def FnExactWeighCoinsWrongFalsely : Prop := fnExactWeighCoinsRow.holds Try.pinned (OpenSpec.ofChange fnExactWeighCoinsWrong)

/-- 'laws.FnExactCoinsLeft': WHATEVER THE INPUT: true; the input reads as it did. -/
def fnExactCoinsLeftSpec : ChangeSpec := { name := "fnExactCoinsLeft", fn := fun _ => fun
  | [d1, d2, d3] => { results := [.lit (.bool true)], args := [d1, d2, d3] }
  | _ => none }
def fnExactCoinsLeftRow : OpenClaim := { program := "ytolmhnekfokpdaa", sum := "84b8166704ac35aa0cb3dd5165bc92e3971f606e41ed132a94f27da081681beb", func := "loop.example/g01401/laws.FnExactCoinsLeft", spec := "fnExactCoinsLeft", unfollowed := true, recurses := true, apart := false }
def FnExactCoinsLeftSaid : Prop := fnExactCoinsLeftRow.holds Try.pinned (OpenSpec.ofChange fnExactCoinsLeftSpec)

/-- ITS FALSE NEIGHBOUR: 'it returns false'. Refute it at one input. -/
def fnExactCoinsLeftWrong : ChangeSpec := { name := "fnExactCoinsLeft", fn := fun _ => fun
  | [d1, d2, d3] => { results := [.lit (.bool false)], args := [d1, d2, d3] }
  | _ => none }
def FnExactCoinsLeftWrongFalsely : Prop := fnExactCoinsLeftRow.holds Try.pinned (OpenSpec.ofChange fnExactCoinsLeftWrong)

/-- 'laws.FnExactIsCoinPlan': WHATEVER THE INPUT: true; the input reads as it did. -/
def fnExactIsCoinPlanSpec : ChangeSpec := { name := "fnExactIsCoinPlan", fn := fun _ => fun
  | [d1, d2] => { results := [.lit (.bool true)], args := [d1, d2] }
  | _ => none }
def fnExactIsCoinPlanRow : OpenClaim := { program := "ytolmhnekfokpdaa", sum := "84b8166704ac35aa0cb3dd5165bc92e3971f606e41ed132a94f27da081681beb", func := "loop.example/g01401/laws.FnExactIsCoinPlan", spec := "fnExactIsCoinPlan", unfollowed := true, recurses := true, apart := false }
def FnExactIsCoinPlanSaid : Prop := fnExactIsCoinPlanRow.holds Try.pinned (OpenSpec.ofChange fnExactIsCoinPlanSpec)

/-- ITS FALSE NEIGHBOUR: 'it returns false'. Refute it at one input. -/
def fnExactIsCoinPlanWrong : ChangeSpec := { name := "fnExactIsCoinPlan", fn := fun _ => fun
  | [d1, d2] => { results := [.lit (.bool false)], args := [d1, d2] }
  | _ => none }
def FnExactIsCoinPlanWrongFalsely : Prop := fnExactIsCoinPlanRow.holds Try.pinned (OpenSpec.ofChange fnExactIsCoinPlanWrong)

/-- 'laws.FnExactLearnThrows': WHATEVER THE INPUT: true; the input reads as it did. -/
def fnExactLearnThrowsSpec : ChangeSpec := { name := "fnExactLearnThrows", fn := fun _ => fun
  | [d1, d2] => { results := [.lit (.bool true)], args := [d1, d2] }
  | _ => none }
def fnExactLearnThrowsRow : OpenClaim := { program := "ytolmhnekfokpdaa", sum := "84b8166704ac35aa0cb3dd5165bc92e3971f606e41ed132a94f27da081681beb", func := "loop.example/g01401/laws.FnExactLearnThrows", spec := "fnExactLearnThrows", unfollowed := true, recurses := true, apart := false }
def FnExactLearnThrowsSaid : Prop := fnExactLearnThrowsRow.holds Try.pinned (OpenSpec.ofChange fnExactLearnThrowsSpec)

/-- ITS FALSE NEIGHBOUR: 'it returns false'. Refute it at one input. -/
def fnExactLearnThrowsWrong : ChangeSpec := { name := "fnExactLearnThrows", fn := fun _ => fun
  | [d1, d2] => { results := [.lit (.bool false)], args := [d1, d2] }
  | _ => none }
def FnExactLearnThrowsWrongFalsely : Prop := fnExactLearnThrowsRow.holds Try.pinned (OpenSpec.ofChange fnExactLearnThrowsWrong)

/-- 'laws.FnExactOverhandBy': WHATEVER THE INPUT: true; the input reads as it did. -/
def fnExactOverhandBySpec : ChangeSpec := { name := "fnExactOverhandBy", fn := fun _ => fun
  | [d1, d2] => { results := [.lit (.bool true)], args := [d1, d2] }
  | _ => none }
def fnExactOverhandByRow : OpenClaim := { program := "ytolmhnekfokpdaa", sum := "84b8166704ac35aa0cb3dd5165bc92e3971f606e41ed132a94f27da081681beb", func := "loop.example/g01401/laws.FnExactOverhandBy", spec := "fnExactOverhandBy", unfollowed := true, recurses := true, apart := false }
def FnExactOverhandBySaid : Prop := fnExactOverhandByRow.holds Try.pinned (OpenSpec.ofChange fnExactOverhandBySpec)

/-- ITS FALSE NEIGHBOUR: 'it returns false'. Refute it at one input. -/
def fnExactOverhandByWrong : ChangeSpec := { name := "fnExactOverhandBy", fn := fun _ => fun
  | [d1, d2] => { results := [.lit (.bool false)], args := [d1, d2] }
  | _ => none }
def FnExactOverhandByWrongFalsely : Prop := fnExactOverhandByRow.holds Try.pinned (OpenSpec.ofChange fnExactOverhandByWrong)

/-- 'laws.FnExactLegalPlays': WHATEVER THE INPUT: true; the input reads as it did. -/
def fnExactLegalPlaysSpec : ChangeSpec := { name := "fnExactLegalPlays", fn := fun _ => fun
  | [d1, d2] => { results := [.lit (.bool true)], args := [d1, d2] }
  | _ => none }
def fnExactLegalPlaysRow : OpenClaim := { program := "ytolmhnekfokpdaa", sum := "84b8166704ac35aa0cb3dd5165bc92e3971f606e41ed132a94f27da081681beb", func := "loop.example/g01401/laws.FnExactLegalPlays", spec := "fnExactLegalPlays", unfollowed := true, recurses := true, apart := false }
def FnExactLegalPlaysSaid : Prop := fnExactLegalPlaysRow.holds Try.pinned (OpenSpec.ofChange fnExactLegalPlaysSpec)

/-- ITS FALSE NEIGHBOUR: 'it returns false'. Refute it at one input. -/
def fnExactLegalPlaysWrong : ChangeSpec := { name := "fnExactLegalPlays", fn := fun _ => fun
  | [d1, d2] => { results := [.lit (.bool false)], args := [d1, d2] }
  | _ => none }
def FnExactLegalPlaysWrongFalsely : Prop := fnExactLegalPlaysRow.holds Try.pinned (OpenSpec.ofChange fnExactLegalPlaysWrong)

/-- 'laws.FnExactStreakCount': WHATEVER THE INPUT: true; the input reads as it did. -/
def fnExactStreakCountSpec : ChangeSpec := { name := "fnExactStreakCount", fn := fun _ => fun
  | [d1, d2] => { results := [.lit (.bool true)], args := [d1, d2] }
  | _ => none }
def fnExactStreakCountRow : OpenClaim := { program := "ytolmhnekfokpdaa", sum := "84b8166704ac35aa0cb3dd5165bc92e3971f606e41ed132a94f27da081681beb", func := "loop.example/g01401/laws.FnExactStreakCount", spec := "fnExactStreakCount", unfollowed := true, recurses := true, apart := false }
def FnExactStreakCountSaid : Prop := fnExactStreakCountRow.holds Try.pinned (OpenSpec.ofChange fnExactStreakCountSpec)

/-- ITS FALSE NEIGHBOUR: 'it returns false'. Refute it at one input. -/
def fnExactStreakCountWrong : ChangeSpec := { name := "fnExactStreakCount", fn := fun _ => fun
  | [d1, d2] => { results := [.lit (.bool false)], args := [d1, d2] }
  | _ => none }
def FnExactStreakCountWrongFalsely : Prop := fnExactStreakCountRow.holds Try.pinned (OpenSpec.ofChange fnExactStreakCountWrong)

/-- 'laws.FnExactStreakCounts': WHATEVER THE INPUT: true; the input reads as it did. -/
def fnExactStreakCountsSpec : ChangeSpec := { name := "fnExactStreakCounts", fn := fun _ => fun
  | [d] => { results := [.lit (.bool true)], args := [d] }
  | _ => none }
def fnExactStreakCountsRow : OpenClaim := { program := "ytolmhnekfokpdaa", sum := "84b8166704ac35aa0cb3dd5165bc92e3971f606e41ed132a94f27da081681beb", func := "loop.example/g01401/laws.FnExactStreakCounts", spec := "fnExactStreakCounts", unfollowed := true, recurses := true, apart := false }
def FnExactStreakCountsSaid : Prop := fnExactStreakCountsRow.holds Try.pinned (OpenSpec.ofChange fnExactStreakCountsSpec)

/-- ITS FALSE NEIGHBOUR: 'it returns false'. Refute it at one input. -/
def fnExactStreakCountsWrong : ChangeSpec := { name := "fnExactStreakCounts", fn := fun _ => fun
  | [d] => { results := [.lit (.bool false)], args := [d] }
  | _ => none }
def FnExactStreakCountsWrongFalsely : Prop := fnExactStreakCountsRow.holds Try.pinned (OpenSpec.ofChange fnExactStreakCountsWrong)

/-- 'laws.FnExactWordFree': WHATEVER THE INPUT: true; the input reads as it did. -/
def fnExactWordFreeSpec : ChangeSpec := { name := "fnExactWordFree", fn := fun _ => fun
  | [d1, d2, d3] => { results := [.lit (.bool true)], args := [d1, d2, d3] }
  | _ => none }
def fnExactWordFreeRow : OpenClaim := { program := "ytolmhnekfokpdaa", sum := "84b8166704ac35aa0cb3dd5165bc92e3971f606e41ed132a94f27da081681beb", func := "loop.example/g01401/laws.FnExactWordFree", spec := "fnExactWordFree", unfollowed := true, recurses := true, apart := false }
def FnExactWordFreeSaid : Prop := fnExactWordFreeRow.holds Try.pinned (OpenSpec.ofChange fnExactWordFreeSpec)

/-- ITS FALSE NEIGHBOUR: 'it returns false'. Refute it at one input. -/
def fnExactWordFreeWrong : ChangeSpec := { name := "fnExactWordFree", fn := fun _ => fun
  | [d1, d2, d3] => { results := [.lit (.bool false)], args := [d1, d2, d3] }
  | _ => none }
def FnExactWordFreeWrongFalsely : Prop := fnExactWordFreeRow.holds Try.pinned (OpenSpec.ofChange fnExactWordFreeWrong)

/-- 'laws.FnExactDealPiles': WHATEVER THE INPUT: true; the input reads as it did. -/
def fnExactDealPilesSpec : ChangeSpec := { name := "fnExactDealPiles", fn := fun _ => fun
  | [d1, d2] => { results := [.lit (.bool true)], args := [d1, d2] }
  | _ => none }
def fnExactDealPilesRow : OpenClaim := { program := "ytolmhnekfokpdaa", sum := "84b8166704ac35aa0cb3dd5165bc92e3971f606e41ed132a94f27da081681beb", func := "loop.example/g01401/laws.FnExactDealPiles", spec := "fnExactDealPiles", apart := false }
def FnExactDealPilesSaid : Prop := fnExactDealPilesRow.holds Try.pinned (OpenSpec.ofChange fnExactDealPilesSpec)

/-- ITS FALSE NEIGHBOUR: 'it returns false'. Refute it at one input. -/
def fnExactDealPilesWrong : ChangeSpec := { name := "fnExactDealPiles", fn := fun _ => fun
  | [d1, d2] => { results := [.lit (.bool false)], args := [d1, d2] }
  | _ => none }
def FnExactDealPilesWrongFalsely : Prop := fnExactDealPilesRow.holds Try.pinned (OpenSpec.ofChange fnExactDealPilesWrong)

/-- 'laws.FnExactGatherPiles': WHATEVER THE INPUT: true; the input reads as it did. -/
def fnExactGatherPilesSpec : ChangeSpec := { name := "fnExactGatherPiles", fn := fun _ => fun
  | [d1, d2] => { results := [.lit (.bool true)], args := [d1, d2] }
  | _ => none }
def fnExactGatherPilesRow : OpenClaim := { program := "ytolmhnekfokpdaa", sum := "84b8166704ac35aa0cb3dd5165bc92e3971f606e41ed132a94f27da081681beb", func := "loop.example/g01401/laws.FnExactGatherPiles", spec := "fnExactGatherPiles", apart := false }
def FnExactGatherPilesSaid : Prop := fnExactGatherPilesRow.holds Try.pinned (OpenSpec.ofChange fnExactGatherPilesSpec)

/-- ITS FALSE NEIGHBOUR: 'it returns false'. Refute it at one input. -/
def fnExactGatherPilesWrong : ChangeSpec := { name := "fnExactGatherPiles", fn := fun _ => fun
  | [d1, d2] => { results := [.lit (.bool false)], args := [d1, d2] }
  | _ => none }
def FnExactGatherPilesWrongFalsely : Prop := fnExactGatherPilesRow.holds Try.pinned (OpenSpec.ofChange fnExactGatherPilesWrong)

/- THE SECOND FORM. 'bulk': how many values and letters a reading holds, each counted each time it is reached (what is shared counts as often as it is met; a slice's spare places count too). A statement '..UptoSaid' is the law's where the arguments, and the package variables that the reading takes, are together of bulk at most 1048576: NARROWER than '..Said'. Prove '..Said' where nothing that the law and all that it calls make is longer than what came in: it says more and counts as full. Else prove '..UptoSaid'. A law counts once. -/
mutual
def uptoBulk {H : Type} : DataW H → Nat
  | .lit (.string bytes) => bytes.length + 1
  | .lit _ => 1
  | .nil => 1
  | .ptr d => uptoBulk d + 1
  | .slice elems spare => uptoBulkAll elems + uptoBulkAll spare + 1
  | .agg parts => uptoBulkAll parts + 1
  | .iface _ d => uptoBulk d + 1
  | .map entries => uptoBulkEntries entries + 1
  | .held _ => 1
def uptoBulkAll {H : Type} : List (DataW H) → Nat
  | [] => 0
  | d :: r => uptoBulk d + uptoBulkAll r
def uptoBulkEntries {H : Type} : List (Lit × DataW H) → Nat
  | [] => 0
  | x :: r => uptoBulkEntry x + uptoBulkEntries r
def uptoBulkEntry {H : Type} : Lit × DataW H → Nat
  | (.string bytes, d) => bytes.length + uptoBulk d + 1
  | (_, d) => uptoBulk d + 1
 end
def uptoSmall : (H : Type) → List (DataW H) → Bool := fun _ ds => decide (uptoBulkAll ds ≤ 1048576)
def OpenSpec.upto (s : _root_.Go.ChangeSpec) : _root_.Go.OpenSpec := { _root_.Go.OpenSpec.ofChange s with cond := some uptoSmall }

/-- 'laws.FnExactIsPaired', WHERE WHAT IT READS IS OF BULK AT MOST 1048576: true; the input reads as it did. -/
def fnExactIsPairedUptoRow : OpenClaim := { program := "ytolmhnekfokpdaa", sum := "84b8166704ac35aa0cb3dd5165bc92e3971f606e41ed132a94f27da081681beb", func := "loop.example/g01401/laws.FnExactIsPaired", spec := "fnExactIsPaired", unfollowed := true, recurses := true, apart := false, narrowed := true }
def FnExactIsPairedUptoSaid : Prop := fnExactIsPairedUptoRow.holds Try.pinned (OpenSpec.upto fnExactIsPairedSpec)

/-- 'laws.FnExactWeighCoins', WHERE WHAT IT READS IS OF BULK AT MOST 1048576: true; the input reads as it did. -/
def fnExactWeighCoinsUptoRow : OpenClaim := { program := "ytolmhnekfokpdaa", sum := "84b8166704ac35aa0cb3dd5165bc92e3971f606e41ed132a94f27da081681beb", func := "loop.example/g01401/laws.FnExactWeighCoins", spec := "fnExactWeighCoins", unfollowed := true, recurses := true, apart := false, narrowed := true }
def FnExactWeighCoinsUptoSaid : Prop := fnExactWeighCoinsUptoRow.holds Try.pinned (OpenSpec.upto fnExactWeighCoinsSpec)

/-- 'laws.FnExactCoinsLeft', WHERE WHAT IT READS IS OF BULK AT MOST 1048576: true; the input reads as it did. -/
def fnExactCoinsLeftUptoRow : OpenClaim := { program := "ytolmhnekfokpdaa", sum := "84b8166704ac35aa0cb3dd5165bc92e3971f606e41ed132a94f27da081681beb", func := "loop.example/g01401/laws.FnExactCoinsLeft", spec := "fnExactCoinsLeft", unfollowed := true, recurses := true, apart := false, narrowed := true }
def FnExactCoinsLeftUptoSaid : Prop := fnExactCoinsLeftUptoRow.holds Try.pinned (OpenSpec.upto fnExactCoinsLeftSpec)

/-- 'laws.FnExactIsCoinPlan', WHERE WHAT IT READS IS OF BULK AT MOST 1048576: true; the input reads as it did. -/
def fnExactIsCoinPlanUptoRow : OpenClaim := { program := "ytolmhnekfokpdaa", sum := "84b8166704ac35aa0cb3dd5165bc92e3971f606e41ed132a94f27da081681beb", func := "loop.example/g01401/laws.FnExactIsCoinPlan", spec := "fnExactIsCoinPlan", unfollowed := true, recurses := true, apart := false, narrowed := true }
def FnExactIsCoinPlanUptoSaid : Prop := fnExactIsCoinPlanUptoRow.holds Try.pinned (OpenSpec.upto fnExactIsCoinPlanSpec)

/-- 'laws.FnExactLearnThrows', WHERE WHAT IT READS IS OF BULK AT MOST 1048576: true; the input reads as it did. -/
def fnExactLearnThrowsUptoRow : OpenClaim := { program := "ytolmhnekfokpdaa", sum := "84b8166704ac35aa0cb3dd5165bc92e3971f606e41ed132a94f27da081681beb", func := "loop.example/g01401/laws.FnExactLearnThrows", spec := "fnExactLearnThrows", unfollowed := true, recurses := true, apart := false, narrowed := true }
def FnExactLearnThrowsUptoSaid : Prop := fnExactLearnThrowsUptoRow.holds Try.pinned (OpenSpec.upto fnExactLearnThrowsSpec)

/-- 'laws.FnExactOverhandBy', WHERE WHAT IT READS IS OF BULK AT MOST 1048576: true; the input reads as it did. -/
def fnExactOverhandByUptoRow : OpenClaim := { program := "ytolmhnekfokpdaa", sum := "84b8166704ac35aa0cb3dd5165bc92e3971f606e41ed132a94f27da081681beb", func := "loop.example/g01401/laws.FnExactOverhandBy", spec := "fnExactOverhandBy", unfollowed := true, recurses := true, apart := false, narrowed := true }
def FnExactOverhandByUptoSaid : Prop := fnExactOverhandByUptoRow.holds Try.pinned (OpenSpec.upto fnExactOverhandBySpec)

/-- 'laws.FnExactLegalPlays', WHERE WHAT IT READS IS OF BULK AT MOST 1048576: true; the input reads as it did. -/
def fnExactLegalPlaysUptoRow : OpenClaim := { program := "ytolmhnekfokpdaa", sum := "84b8166704ac35aa0cb3dd5165bc92e3971f606e41ed132a94f27da081681beb", func := "loop.example/g01401/laws.FnExactLegalPlays", spec := "fnExactLegalPlays", unfollowed := true, recurses := true, apart := false, narrowed := true }
def FnExactLegalPlaysUptoSaid : Prop := fnExactLegalPlaysUptoRow.holds Try.pinned (OpenSpec.upto fnExactLegalPlaysSpec)

/-- 'laws.FnExactStreakCount', WHERE WHAT IT READS IS OF BULK AT MOST 1048576: true; the input reads as it did. -/
def fnExactStreakCountUptoRow : OpenClaim := { program := "ytolmhnekfokpdaa", sum := "84b8166704ac35aa0cb3dd5165bc92e3971f606e41ed132a94f27da081681beb", func := "loop.example/g01401/laws.FnExactStreakCount", spec := "fnExactStreakCount", unfollowed := true, recurses := true, apart := false, narrowed := true }
def FnExactStreakCountUptoSaid : Prop := fnExactStreakCountUptoRow.holds Try.pinned (OpenSpec.upto fnExactStreakCountSpec)

/-- 'laws.FnExactStreakCounts', WHERE WHAT IT READS IS OF BULK AT MOST 1048576: true; the input reads as it did. -/
def fnExactStreakCountsUptoRow : OpenClaim := { program := "ytolmhnekfokpdaa", sum := "84b8166704ac35aa0cb3dd5165bc92e3971f606e41ed132a94f27da081681beb", func := "loop.example/g01401/laws.FnExactStreakCounts", spec := "fnExactStreakCounts", unfollowed := true, recurses := true, apart := false, narrowed := true }
def FnExactStreakCountsUptoSaid : Prop := fnExactStreakCountsUptoRow.holds Try.pinned (OpenSpec.upto fnExactStreakCountsSpec)

/-- 'laws.FnExactWordFree', WHERE WHAT IT READS IS OF BULK AT MOST 1048576: true; the input reads as it did. -/
def fnExactWordFreeUptoRow : OpenClaim := { program := "ytolmhnekfokpdaa", sum := "84b8166704ac35aa0cb3dd5165bc92e3971f606e41ed132a94f27da081681beb", func := "loop.example/g01401/laws.FnExactWordFree", spec := "fnExactWordFree", unfollowed := true, recurses := true, apart := false, narrowed := true }
def FnExactWordFreeUptoSaid : Prop := fnExactWordFreeUptoRow.holds Try.pinned (OpenSpec.upto fnExactWordFreeSpec)

/-- 'laws.FnExactDealPiles', WHERE WHAT IT READS IS OF BULK AT MOST 1048576: true; the input reads as it did. -/
def fnExactDealPilesUptoRow : OpenClaim := { program := "ytolmhnekfokpdaa", sum := "84b8166704ac35aa0cb3dd5165bc92e3971f606e41ed132a94f27da081681beb", func := "loop.example/g01401/laws.FnExactDealPiles", spec := "fnExactDealPiles", apart := false, narrowed := true }
def FnExactDealPilesUptoSaid : Prop := fnExactDealPilesUptoRow.holds Try.pinned (OpenSpec.upto fnExactDealPilesSpec)

/-- 'laws.FnExactGatherPiles', WHERE WHAT IT READS IS OF BULK AT MOST 1048576: true; the input reads as it did. -/
def fnExactGatherPilesUptoRow : OpenClaim := { program := "ytolmhnekfokpdaa", sum := "84b8166704ac35aa0cb3dd5165bc92e3971f606e41ed132a94f27da081681beb", func := "loop.example/g01401/laws.FnExactGatherPiles", spec := "fnExactGatherPiles", apart := false, narrowed := true }
def FnExactGatherPilesUptoSaid : Prop := fnExactGatherPilesUptoRow.holds Try.pinned (OpenSpec.upto fnExactGatherPilesSpec)

end Rows
end Go.Proofs.Ytolmhnekfokpdaa
