/-
  No cell of these rows narrows 'for every input' (looked for: loops, veiled, ifaces, maps, wideKeys, modest, calm, conditions, laid).
  DERIVED. THE GIVEN ROWS OF THIS SEAT. 12 by the template 'for every input the law returns true; each argument reads behind the call as it read before'; 0 by the template 'total and deterministic' (their statements: YtcoehcoohppbjaaTotals.lean).
  GIVEN WITH THE SEED: the statements are not yours to turn. If you find one false, say at which input.
  Laid BY PROGRAM, IN A SANDBOX (cutbox-rows.mjs): the forced cells as the released guide's own fill.sh prints them over the translation ffe78aa4b0301844… (all of the seat's roots in one cut). By AI agents, Wed Nov 11 2026. No macro, syntax, notation, axiom, sorry.
-/
import Derived.Test.YtcoehcoohppbjaaChecked
import GoSem.Claim
import GoSem.ClaimJoined
import GoSem.ClaimMapViews
import Derived.JoinedTies
import Derived.KernelRfl
namespace Go.Proofs.Ytcoehcoohppbjaa
/- THE CELL 'sum', in the pinned program and in every row, IS THE sha256 OF THE DUMP (.gsa) THAT YtcoehcoohppbjaaProg.lean LOADS. Nothing in Lean hashes anything: it is a label: what it is worth is what the hold of that sum in a sandbox is worth. -/
noncomputable def Try.pinned : Pinned := { name := "ytcoehcoohppbjaa", sum := "ffe78aa4b030184465a955a059ffd970d96c4330ce60fd367d2bf4e6c6b439b8", checked := Try.checked }
namespace Rows
def none {H : Type} : Left H := { results := [], args := [] }

/-- 'laws.FnExactValidDesk': WHATEVER THE INPUT: true; the input reads as it did. -/
def fnExactValidDeskSpec : ChangeSpec := { name := "fnExactValidDesk", fn := fun _ => fun
  | [d] => { results := [.lit (.bool true)], args := [d] }
  | _ => none }
def fnExactValidDeskRow : OpenClaim := { program := "ytcoehcoohppbjaa", sum := "ffe78aa4b030184465a955a059ffd970d96c4330ce60fd367d2bf4e6c6b439b8", func := "loop.example/g01401/laws.FnExactValidDesk", spec := "fnExactValidDesk", unfollowed := true, recurses := true, apart := false }
def FnExactValidDeskSaid : Prop := fnExactValidDeskRow.holds Try.pinned (OpenSpec.ofChange fnExactValidDeskSpec)

/-- ITS FALSE NEIGHBOUR: 'it returns false'. Refute it at one input. -/
def fnExactValidDeskWrong : ChangeSpec := { name := "fnExactValidDesk", fn := fun _ => fun
  | [d] => { results := [.lit (.bool false)], args := [d] }
  | _ => none }
def FnExactValidDeskWrongFalsely : Prop := fnExactValidDeskRow.holds Try.pinned (OpenSpec.ofChange fnExactValidDeskWrong)

/-- 'laws.FnExactSameDesk': WHATEVER THE INPUT: true; the input reads as it did. -/
def fnExactSameDeskSpec : ChangeSpec := { name := "fnExactSameDesk", fn := fun _ => fun
  | [d1, d2] => { results := [.lit (.bool true)], args := [d1, d2] }
  | _ => none }
def fnExactSameDeskRow : OpenClaim := { program := "ytcoehcoohppbjaa", sum := "ffe78aa4b030184465a955a059ffd970d96c4330ce60fd367d2bf4e6c6b439b8", func := "loop.example/g01401/laws.FnExactSameDesk", spec := "fnExactSameDesk", apart := false }
def FnExactSameDeskSaid : Prop := fnExactSameDeskRow.holds Try.pinned (OpenSpec.ofChange fnExactSameDeskSpec)

/-- ITS FALSE NEIGHBOUR: 'it returns false'. Refute it at one input. -/
def fnExactSameDeskWrong : ChangeSpec := { name := "fnExactSameDesk", fn := fun _ => fun
  | [d1, d2] => { results := [.lit (.bool false)], args := [d1, d2] }
  | _ => none }
def FnExactSameDeskWrongFalsely : Prop := fnExactSameDeskRow.holds Try.pinned (OpenSpec.ofChange fnExactSameDeskWrong)

/-- 'laws.FnExactNewDesk': WHATEVER THE INPUT: true; the input reads as it did. -/
def fnExactNewDeskSpec : ChangeSpec := { name := "fnExactNewDesk", fn := fun _ => fun
  | [] => { results := [.lit (.bool true)], args := [] }
  | _ => none }
def fnExactNewDeskRow : OpenClaim := { program := "ytcoehcoohppbjaa", sum := "ffe78aa4b030184465a955a059ffd970d96c4330ce60fd367d2bf4e6c6b439b8", func := "loop.example/g01401/laws.FnExactNewDesk", spec := "fnExactNewDesk", unfollowed := true, recurses := true, apart := false }
def FnExactNewDeskSaid : Prop := fnExactNewDeskRow.holds Try.pinned (OpenSpec.ofChange fnExactNewDeskSpec)

/-- ITS FALSE NEIGHBOUR: 'it returns false'. Refute it at one input. -/
def fnExactNewDeskWrong : ChangeSpec := { name := "fnExactNewDesk", fn := fun _ => fun
  | [] => { results := [.lit (.bool false)], args := [] }
  | _ => none }
def FnExactNewDeskWrongFalsely : Prop := fnExactNewDeskRow.holds Try.pinned (OpenSpec.ofChange fnExactNewDeskWrong)

/-- 'laws.FnExactValidSaved': WHATEVER THE INPUT: true; the input reads as it did. -/
def fnExactValidSavedSpec : ChangeSpec := { name := "fnExactValidSaved", fn := fun _ => fun
  | [d] => { results := [.lit (.bool true)], args := [d] }
  | _ => none }
def fnExactValidSavedRow : OpenClaim := { program := "ytcoehcoohppbjaa", sum := "ffe78aa4b030184465a955a059ffd970d96c4330ce60fd367d2bf4e6c6b439b8", func := "loop.example/g01401/laws.FnExactValidSaved", spec := "fnExactValidSaved", unfollowed := true, recurses := true, apart := false }
def FnExactValidSavedSaid : Prop := fnExactValidSavedRow.holds Try.pinned (OpenSpec.ofChange fnExactValidSavedSpec)

/-- ITS FALSE NEIGHBOUR: 'it returns false'. Refute it at one input. -/
def fnExactValidSavedWrong : ChangeSpec := { name := "fnExactValidSaved", fn := fun _ => fun
  | [d] => { results := [.lit (.bool false)], args := [d] }
  | _ => none }
def FnExactValidSavedWrongFalsely : Prop := fnExactValidSavedRow.holds Try.pinned (OpenSpec.ofChange fnExactValidSavedWrong)

/-- 'laws.FnExactSameSaved': WHATEVER THE INPUT: true; the input reads as it did. -/
def fnExactSameSavedSpec : ChangeSpec := { name := "fnExactSameSaved", fn := fun _ => fun
  | [d1, d2] => { results := [.lit (.bool true)], args := [d1, d2] }
  | _ => none }
def fnExactSameSavedRow : OpenClaim := { program := "ytcoehcoohppbjaa", sum := "ffe78aa4b030184465a955a059ffd970d96c4330ce60fd367d2bf4e6c6b439b8", func := "loop.example/g01401/laws.FnExactSameSaved", spec := "fnExactSameSaved", unfollowed := true, recurses := true, apart := false }
def FnExactSameSavedSaid : Prop := fnExactSameSavedRow.holds Try.pinned (OpenSpec.ofChange fnExactSameSavedSpec)

/-- ITS FALSE NEIGHBOUR: 'it returns false'. Refute it at one input. -/
def fnExactSameSavedWrong : ChangeSpec := { name := "fnExactSameSaved", fn := fun _ => fun
  | [d1, d2] => { results := [.lit (.bool false)], args := [d1, d2] }
  | _ => none }
def FnExactSameSavedWrongFalsely : Prop := fnExactSameSavedRow.holds Try.pinned (OpenSpec.ofChange fnExactSameSavedWrong)

/-- 'laws.FnExactFitStrengths': WHATEVER THE INPUT: true; the input reads as it did. -/
def fnExactFitStrengthsSpec : ChangeSpec := { name := "fnExactFitStrengths", fn := fun _ => fun
  | [d1, d2, d3] => { results := [.lit (.bool true)], args := [d1, d2, d3] }
  | _ => none }
def fnExactFitStrengthsRow : OpenClaim := { program := "ytcoehcoohppbjaa", sum := "ffe78aa4b030184465a955a059ffd970d96c4330ce60fd367d2bf4e6c6b439b8", func := "loop.example/g01401/laws.FnExactFitStrengths", spec := "fnExactFitStrengths", inPlace := ["math.Float64bits", "math.Float64frombits"], unfollowed := true, recurses := true, apart := false }
def FnExactFitStrengthsSaid : Prop := fnExactFitStrengthsRow.holds Try.pinned (OpenSpec.ofChange fnExactFitStrengthsSpec)

/-- ITS FALSE NEIGHBOUR: 'it returns false'. Refute it at one input. -/
def fnExactFitStrengthsWrong : ChangeSpec := { name := "fnExactFitStrengths", fn := fun _ => fun
  | [d1, d2, d3] => { results := [.lit (.bool false)], args := [d1, d2, d3] }
  | _ => none }
def FnExactFitStrengthsWrongFalsely : Prop := fnExactFitStrengthsRow.holds Try.pinned (OpenSpec.ofChange fnExactFitStrengthsWrong)

/-- 'laws.FnExactKnockChances': WHATEVER THE INPUT: true; the input reads as it did. -/
def fnExactKnockChancesSpec : ChangeSpec := { name := "fnExactKnockChances", fn := fun _ => fun
  | [d] => { results := [.lit (.bool true)], args := [d] }
  | _ => none }
def fnExactKnockChancesRow : OpenClaim := { program := "ytcoehcoohppbjaa", sum := "ffe78aa4b030184465a955a059ffd970d96c4330ce60fd367d2bf4e6c6b439b8", func := "loop.example/g01401/laws.FnExactKnockChances", spec := "fnExactKnockChances", inPlace := ["math.Float64bits", "math.Float64frombits"], unfollowed := true, recurses := true, apart := false }
def FnExactKnockChancesSaid : Prop := fnExactKnockChancesRow.holds Try.pinned (OpenSpec.ofChange fnExactKnockChancesSpec)

/-- ITS FALSE NEIGHBOUR: 'it returns false'. Refute it at one input. -/
def fnExactKnockChancesWrong : ChangeSpec := { name := "fnExactKnockChances", fn := fun _ => fun
  | [d] => { results := [.lit (.bool false)], args := [d] }
  | _ => none }
def FnExactKnockChancesWrongFalsely : Prop := fnExactKnockChancesRow.holds Try.pinned (OpenSpec.ofChange fnExactKnockChancesWrong)

/-- 'laws.FnExactStreakCount': WHATEVER THE INPUT: true; the input reads as it did. -/
def fnExactStreakCountSpec : ChangeSpec := { name := "fnExactStreakCount", fn := fun _ => fun
  | [d1, d2] => { results := [.lit (.bool true)], args := [d1, d2] }
  | _ => none }
def fnExactStreakCountRow : OpenClaim := { program := "ytcoehcoohppbjaa", sum := "ffe78aa4b030184465a955a059ffd970d96c4330ce60fd367d2bf4e6c6b439b8", func := "loop.example/g01401/laws.FnExactStreakCount", spec := "fnExactStreakCount", unfollowed := true, recurses := true, apart := false }
def FnExactStreakCountSaid : Prop := fnExactStreakCountRow.holds Try.pinned (OpenSpec.ofChange fnExactStreakCountSpec)

/-- ITS FALSE NEIGHBOUR: 'it returns false'. Refute it at one input. -/
def fnExactStreakCountWrong : ChangeSpec := { name := "fnExactStreakCount", fn := fun _ => fun
  | [d1, d2] => { results := [.lit (.bool false)], args := [d1, d2] }
  | _ => none }
def FnExactStreakCountWrongFalsely : Prop := fnExactStreakCountRow.holds Try.pinned (OpenSpec.ofChange fnExactStreakCountWrong)

/-- 'laws.FnExactStreakCounts': WHATEVER THE INPUT: true; the input reads as it did. -/
def fnExactStreakCountsSpec : ChangeSpec := { name := "fnExactStreakCounts", fn := fun _ => fun
  | [d] => { results := [.lit (.bool true)], args := [d] }
  | _ => none }
def fnExactStreakCountsRow : OpenClaim := { program := "ytcoehcoohppbjaa", sum := "ffe78aa4b030184465a955a059ffd970d96c4330ce60fd367d2bf4e6c6b439b8", func := "loop.example/g01401/laws.FnExactStreakCounts", spec := "fnExactStreakCounts", unfollowed := true, recurses := true, apart := false }
def FnExactStreakCountsSaid : Prop := fnExactStreakCountsRow.holds Try.pinned (OpenSpec.ofChange fnExactStreakCountsSpec)

/-- ITS FALSE NEIGHBOUR: 'it returns false'. Refute it at one input. -/
def fnExactStreakCountsWrong : ChangeSpec := { name := "fnExactStreakCounts", fn := fun _ => fun
  | [d] => { results := [.lit (.bool false)], args := [d] }
  | _ => none }
def FnExactStreakCountsWrongFalsely : Prop := fnExactStreakCountsRow.holds Try.pinned (OpenSpec.ofChange fnExactStreakCountsWrong)

/-- 'laws.FnExactWordFree': WHATEVER THE INPUT: true; the input reads as it did. -/
def fnExactWordFreeSpec : ChangeSpec := { name := "fnExactWordFree", fn := fun _ => fun
  | [d1, d2, d3] => { results := [.lit (.bool true)], args := [d1, d2, d3] }
  | _ => none }
def fnExactWordFreeRow : OpenClaim := { program := "ytcoehcoohppbjaa", sum := "ffe78aa4b030184465a955a059ffd970d96c4330ce60fd367d2bf4e6c6b439b8", func := "loop.example/g01401/laws.FnExactWordFree", spec := "fnExactWordFree", unfollowed := true, recurses := true, apart := false }
def FnExactWordFreeSaid : Prop := fnExactWordFreeRow.holds Try.pinned (OpenSpec.ofChange fnExactWordFreeSpec)

/-- ITS FALSE NEIGHBOUR: 'it returns false'. Refute it at one input. -/
def fnExactWordFreeWrong : ChangeSpec := { name := "fnExactWordFree", fn := fun _ => fun
  | [d1, d2, d3] => { results := [.lit (.bool false)], args := [d1, d2, d3] }
  | _ => none }
def FnExactWordFreeWrongFalsely : Prop := fnExactWordFreeRow.holds Try.pinned (OpenSpec.ofChange fnExactWordFreeWrong)

/-- 'laws.FnExactDeckOfRank': WHATEVER THE INPUT: true; the input reads as it did. -/
def fnExactDeckOfRankSpec : ChangeSpec := { name := "fnExactDeckOfRank", fn := fun _ => fun
  | [d1, d2] => { results := [.lit (.bool true)], args := [d1, d2] }
  | _ => none }
def fnExactDeckOfRankRow : OpenClaim := { program := "ytcoehcoohppbjaa", sum := "ffe78aa4b030184465a955a059ffd970d96c4330ce60fd367d2bf4e6c6b439b8", func := "loop.example/g01401/laws.FnExactDeckOfRank", spec := "fnExactDeckOfRank", unfollowed := true, recurses := true, apart := false }
def FnExactDeckOfRankSaid : Prop := fnExactDeckOfRankRow.holds Try.pinned (OpenSpec.ofChange fnExactDeckOfRankSpec)

/-- ITS FALSE NEIGHBOUR: 'it returns false'. Refute it at one input. -/
def fnExactDeckOfRankWrong : ChangeSpec := { name := "fnExactDeckOfRank", fn := fun _ => fun
  | [d1, d2] => { results := [.lit (.bool false)], args := [d1, d2] }
  | _ => none }
def FnExactDeckOfRankWrongFalsely : Prop := fnExactDeckOfRankRow.holds Try.pinned (OpenSpec.ofChange fnExactDeckOfRankWrong)

/-- 'laws.FnExactLegalPlays': WHATEVER THE INPUT: true; the input reads as it did. -/
def fnExactLegalPlaysSpec : ChangeSpec := { name := "fnExactLegalPlays", fn := fun _ => fun
  | [d1, d2] => { results := [.lit (.bool true)], args := [d1, d2] }
  | _ => none }
def fnExactLegalPlaysRow : OpenClaim := { program := "ytcoehcoohppbjaa", sum := "ffe78aa4b030184465a955a059ffd970d96c4330ce60fd367d2bf4e6c6b439b8", func := "loop.example/g01401/laws.FnExactLegalPlays", spec := "fnExactLegalPlays", unfollowed := true, recurses := true, apart := false }
def FnExactLegalPlaysSaid : Prop := fnExactLegalPlaysRow.holds Try.pinned (OpenSpec.ofChange fnExactLegalPlaysSpec)

/-- ITS FALSE NEIGHBOUR: 'it returns false'. Refute it at one input. -/
def fnExactLegalPlaysWrong : ChangeSpec := { name := "fnExactLegalPlays", fn := fun _ => fun
  | [d1, d2] => { results := [.lit (.bool false)], args := [d1, d2] }
  | _ => none }
def FnExactLegalPlaysWrongFalsely : Prop := fnExactLegalPlaysRow.holds Try.pinned (OpenSpec.ofChange fnExactLegalPlaysWrong)

/- THE SECOND FORM. 'bulk': how many values and letters a reading holds, each counted each time it is reached (what is shared counts as often as it is met; a slice's spare places count too). A statement '..UptoSaid' is the law's where the arguments, and the package variables that the reading takes, are together of bulk at most 1048576: NARROWER than '..Said'. Prove '..Said' where nothing that the law and all that it calls make is longer than what came in: it says more and counts as full. Else prove '..UptoSaid'. A law counts once. -/
mutual
def uptoBulk {H : Type} : DataW H → Nat
  | .lit (.string bytes) => bytes.length + 1
  | .lit _ => 1
  | .nil => 1
  | .ptr d => uptoBulk d + 1
  | .slice elems spare => uptoBulkAll elems + uptoBulkAll spare + 1
  | .agg parts => uptoBulkAll parts + 1
  | .iface _ d => uptoBulk d + 1
  | .map entries => uptoBulkEntries entries + 1
  | .held _ => 1
def uptoBulkAll {H : Type} : List (DataW H) → Nat
  | [] => 0
  | d :: r => uptoBulk d + uptoBulkAll r
def uptoBulkEntries {H : Type} : List (Lit × DataW H) → Nat
  | [] => 0
  | x :: r => uptoBulkEntry x + uptoBulkEntries r
def uptoBulkEntry {H : Type} : Lit × DataW H → Nat
  | (.string bytes, d) => bytes.length + uptoBulk d + 1
  | (_, d) => uptoBulk d + 1
 end
def uptoSmall : (H : Type) → List (DataW H) → Bool := fun _ ds => decide (uptoBulkAll ds ≤ 1048576)
def OpenSpec.upto (s : _root_.Go.ChangeSpec) : _root_.Go.OpenSpec := { _root_.Go.OpenSpec.ofChange s with cond := some uptoSmall }

/-- 'laws.FnExactValidDesk', WHERE WHAT IT READS IS OF BULK AT MOST 1048576: true; the input reads as it did. -/
def fnExactValidDeskUptoRow : OpenClaim := { program := "ytcoehcoohppbjaa", sum := "ffe78aa4b030184465a955a059ffd970d96c4330ce60fd367d2bf4e6c6b439b8", func := "loop.example/g01401/laws.FnExactValidDesk", spec := "fnExactValidDesk", unfollowed := true, recurses := true, apart := false, narrowed := true }
def FnExactValidDeskUptoSaid : Prop := fnExactValidDeskUptoRow.holds Try.pinned (OpenSpec.upto fnExactValidDeskSpec)

/-- 'laws.FnExactSameDesk', WHERE WHAT IT READS IS OF BULK AT MOST 1048576: true; the input reads as it did. -/
def fnExactSameDeskUptoRow : OpenClaim := { program := "ytcoehcoohppbjaa", sum := "ffe78aa4b030184465a955a059ffd970d96c4330ce60fd367d2bf4e6c6b439b8", func := "loop.example/g01401/laws.FnExactSameDesk", spec := "fnExactSameDesk", apart := false, narrowed := true }
def FnExactSameDeskUptoSaid : Prop := fnExactSameDeskUptoRow.holds Try.pinned (OpenSpec.upto fnExactSameDeskSpec)

/-- 'laws.FnExactNewDesk', WHERE WHAT IT READS IS OF BULK AT MOST 1048576: true; the input reads as it did. -/
def fnExactNewDeskUptoRow : OpenClaim := { program := "ytcoehcoohppbjaa", sum := "ffe78aa4b030184465a955a059ffd970d96c4330ce60fd367d2bf4e6c6b439b8", func := "loop.example/g01401/laws.FnExactNewDesk", spec := "fnExactNewDesk", unfollowed := true, recurses := true, apart := false, narrowed := true }
def FnExactNewDeskUptoSaid : Prop := fnExactNewDeskUptoRow.holds Try.pinned (OpenSpec.upto fnExactNewDeskSpec)

/-- 'laws.FnExactValidSaved', WHERE WHAT IT READS IS OF BULK AT MOST 1048576: true; the input reads as it did. -/
def fnExactValidSavedUptoRow : OpenClaim := { program := "ytcoehcoohppbjaa", sum := "ffe78aa4b030184465a955a059ffd970d96c4330ce60fd367d2bf4e6c6b439b8", func := "loop.example/g01401/laws.FnExactValidSaved", spec := "fnExactValidSaved", unfollowed := true, recurses := true, apart := false, narrowed := true }
def FnExactValidSavedUptoSaid : Prop := fnExactValidSavedUptoRow.holds Try.pinned (OpenSpec.upto fnExactValidSavedSpec)

/-- 'laws.FnExactSameSaved', WHERE WHAT IT READS IS OF BULK AT MOST 1048576: true; the input reads as it did. -/
def fnExactSameSavedUptoRow : OpenClaim := { program := "ytcoehcoohppbjaa", sum := "ffe78aa4b030184465a955a059ffd970d96c4330ce60fd367d2bf4e6c6b439b8", func := "loop.example/g01401/laws.FnExactSameSaved", spec := "fnExactSameSaved", unfollowed := true, recurses := true, apart := false, narrowed := true }
def FnExactSameSavedUptoSaid : Prop := fnExactSameSavedUptoRow.holds Try.pinned (OpenSpec.upto fnExactSameSavedSpec)

/-- 'laws.FnExactFitStrengths', WHERE WHAT IT READS IS OF BULK AT MOST 1048576: true; the input reads as it did. -/
def fnExactFitStrengthsUptoRow : OpenClaim := { program := "ytcoehcoohppbjaa", sum := "ffe78aa4b030184465a955a059ffd970d96c4330ce60fd367d2bf4e6c6b439b8", func := "loop.example/g01401/laws.FnExactFitStrengths", spec := "fnExactFitStrengths", inPlace := ["math.Float64bits", "math.Float64frombits"], unfollowed := true, recurses := true, apart := false, narrowed := true }
def FnExactFitStrengthsUptoSaid : Prop := fnExactFitStrengthsUptoRow.holds Try.pinned (OpenSpec.upto fnExactFitStrengthsSpec)

/-- 'laws.FnExactKnockChances', WHERE WHAT IT READS IS OF BULK AT MOST 1048576: true; the input reads as it did. -/
def fnExactKnockChancesUptoRow : OpenClaim := { program := "ytcoehcoohppbjaa", sum := "ffe78aa4b030184465a955a059ffd970d96c4330ce60fd367d2bf4e6c6b439b8", func := "loop.example/g01401/laws.FnExactKnockChances", spec := "fnExactKnockChances", inPlace := ["math.Float64bits", "math.Float64frombits"], unfollowed := true, recurses := true, apart := false, narrowed := true }
def FnExactKnockChancesUptoSaid : Prop := fnExactKnockChancesUptoRow.holds Try.pinned (OpenSpec.upto fnExactKnockChancesSpec)

/-- 'laws.FnExactStreakCount', WHERE WHAT IT READS IS OF BULK AT MOST 1048576: true; the input reads as it did. -/
def fnExactStreakCountUptoRow : OpenClaim := { program := "ytcoehcoohppbjaa", sum := "ffe78aa4b030184465a955a059ffd970d96c4330ce60fd367d2bf4e6c6b439b8", func := "loop.example/g01401/laws.FnExactStreakCount", spec := "fnExactStreakCount", unfollowed := true, recurses := true, apart := false, narrowed := true }
def FnExactStreakCountUptoSaid : Prop := fnExactStreakCountUptoRow.holds Try.pinned (OpenSpec.upto fnExactStreakCountSpec)

/-- 'laws.FnExactStreakCounts', WHERE WHAT IT READS IS OF BULK AT MOST 1048576: true; the input reads as it did. -/
def fnExactStreakCountsUptoRow : OpenClaim := { program := "ytcoehcoohppbjaa", sum := "ffe78aa4b030184465a955a059ffd970d96c4330ce60fd367d2bf4e6c6b439b8", func := "loop.example/g01401/laws.FnExactStreakCounts", spec := "fnExactStreakCounts", unfollowed := true, recurses := true, apart := false, narrowed := true }
def FnExactStreakCountsUptoSaid : Prop := fnExactStreakCountsUptoRow.holds Try.pinned (OpenSpec.upto fnExactStreakCountsSpec)

/-- 'laws.FnExactWordFree', WHERE WHAT IT READS IS OF BULK AT MOST 1048576: true; the input reads as it did. -/
def fnExactWordFreeUptoRow : OpenClaim := { program := "ytcoehcoohppbjaa", sum := "ffe78aa4b030184465a955a059ffd970d96c4330ce60fd367d2bf4e6c6b439b8", func := "loop.example/g01401/laws.FnExactWordFree", spec := "fnExactWordFree", unfollowed := true, recurses := true, apart := false, narrowed := true }
def FnExactWordFreeUptoSaid : Prop := fnExactWordFreeUptoRow.holds Try.pinned (OpenSpec.upto fnExactWordFreeSpec)

/-- 'laws.FnExactDeckOfRank', WHERE WHAT IT READS IS OF BULK AT MOST 1048576: true; the input reads as it did. -/
def fnExactDeckOfRankUptoRow : OpenClaim := { program := "ytcoehcoohppbjaa", sum := "ffe78aa4b030184465a955a059ffd970d96c4330ce60fd367d2bf4e6c6b439b8", func := "loop.example/g01401/laws.FnExactDeckOfRank", spec := "fnExactDeckOfRank", unfollowed := true, recurses := true, apart := false, narrowed := true }
def FnExactDeckOfRankUptoSaid : Prop := fnExactDeckOfRankUptoRow.holds Try.pinned (OpenSpec.upto fnExactDeckOfRankSpec)

/-- 'laws.FnExactLegalPlays', WHERE WHAT IT READS IS OF BULK AT MOST 1048576: true; the input reads as it did. -/
def fnExactLegalPlaysUptoRow : OpenClaim := { program := "ytcoehcoohppbjaa", sum := "ffe78aa4b030184465a955a059ffd970d96c4330ce60fd367d2bf4e6c6b439b8", func := "loop.example/g01401/laws.FnExactLegalPlays", spec := "fnExactLegalPlays", unfollowed := true, recurses := true, apart := false, narrowed := true }
def FnExactLegalPlaysUptoSaid : Prop := fnExactLegalPlaysUptoRow.holds Try.pinned (OpenSpec.upto fnExactLegalPlaysSpec)

end Rows
end Go.Proofs.Ytcoehcoohppbjaa
