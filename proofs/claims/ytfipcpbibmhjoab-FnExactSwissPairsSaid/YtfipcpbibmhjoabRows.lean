/-
  No cell of these rows narrows 'for every input' (looked for: loops, veiled, ifaces, maps, wideKeys, modest, calm, conditions, laid).
  DERIVED. THE GIVEN ROWS OF THIS SEAT. 8 by the template 'for every input the law returns true; each argument reads behind the call as it read before'; 0 by the template 'total and deterministic' (their statements: YtfipcpbibmhjoabTotals.lean).
  GIVEN WITH THE SEED: the statements are not yours to turn. If you find one false, say at which input.
  Laid BY PROGRAM, IN A SANDBOX (cutbox-rows.mjs): the forced cells as the released guide's own fill.sh prints them over the translation 1fee9a53439501e7… (all of the seat's roots in one cut). By AI agents, Wed Nov 11 2026. No macro, syntax, notation, axiom, sorry.
-/
import Derived.Test.YtfipcpbibmhjoabChecked
import GoSem.Claim
import GoSem.ClaimJoined
import GoSem.ClaimMapViews
import Derived.JoinedTies
import Derived.KernelRfl
namespace Go.Proofs.Ytfipcpbibmhjoab
/- THE CELL 'sum', in the pinned program and in every row, IS THE sha256 OF THE DUMP (.gsa) THAT YtfipcpbibmhjoabProg.lean LOADS. Nothing in Lean hashes anything: it is a label: what it is worth is what the hold of that sum in a sandbox is worth. -/
noncomputable def Try.pinned : Pinned := { name := "ytfipcpbibmhjoab", sum := "1fee9a53439501e757439f0bbef2aad16ee220957852daaf1a521904d9126ac5", checked := Try.checked }
namespace Rows
def none {H : Type} : Left H := { results := [], args := [] }

/-- 'laws.FnExactSwissPairs': WHATEVER THE INPUT: true; the input reads as it did. -/
def fnExactSwissPairsSpec : ChangeSpec := { name := "fnExactSwissPairs", fn := fun _ => fun
  | [d1, d2] => { results := [.lit (.bool true)], args := [d1, d2] }
  | _ => none }
def fnExactSwissPairsRow : OpenClaim := { program := "ytfipcpbibmhjoab", sum := "1fee9a53439501e757439f0bbef2aad16ee220957852daaf1a521904d9126ac5", func := "loop.example/g01401/laws.FnExactSwissPairs", spec := "fnExactSwissPairs", unfollowed := true, recurses := true, apart := false }
def FnExactSwissPairsSaid : Prop := fnExactSwissPairsRow.holds Try.pinned (OpenSpec.ofChange fnExactSwissPairsSpec)

/-- ITS FALSE NEIGHBOUR: 'it returns false'. Refute it at one input. -/
def fnExactSwissPairsWrong : ChangeSpec := { name := "fnExactSwissPairs", fn := fun _ => fun
  | [d1, d2] => { results := [.lit (.bool false)], args := [d1, d2] }
  | _ => none }
def FnExactSwissPairsWrongFalsely : Prop := fnExactSwissPairsRow.holds Try.pinned (OpenSpec.ofChange fnExactSwissPairsWrong)

/-- 'laws.FnExactFitStrengths': WHATEVER THE INPUT: true; the input reads as it did. -/
def fnExactFitStrengthsSpec : ChangeSpec := { name := "fnExactFitStrengths", fn := fun _ => fun
  | [d1, d2, d3] => { results := [.lit (.bool true)], args := [d1, d2, d3] }
  | _ => none }
def fnExactFitStrengthsRow : OpenClaim := { program := "ytfipcpbibmhjoab", sum := "1fee9a53439501e757439f0bbef2aad16ee220957852daaf1a521904d9126ac5", func := "loop.example/g01401/laws.FnExactFitStrengths", spec := "fnExactFitStrengths", inPlace := ["math.Float64bits", "math.Float64frombits"], unfollowed := true, recurses := true, apart := false }
def FnExactFitStrengthsSaid : Prop := fnExactFitStrengthsRow.holds Try.pinned (OpenSpec.ofChange fnExactFitStrengthsSpec)

/-- ITS FALSE NEIGHBOUR: 'it returns false'. Refute it at one input. -/
def fnExactFitStrengthsWrong : ChangeSpec := { name := "fnExactFitStrengths", fn := fun _ => fun
  | [d1, d2, d3] => { results := [.lit (.bool false)], args := [d1, d2, d3] }
  | _ => none }
def FnExactFitStrengthsWrongFalsely : Prop := fnExactFitStrengthsRow.holds Try.pinned (OpenSpec.ofChange fnExactFitStrengthsWrong)

/-- 'laws.FnExactLikeOfGames': WHATEVER THE INPUT: true; the input reads as it did. -/
def fnExactLikeOfGamesSpec : ChangeSpec := { name := "fnExactLikeOfGames", fn := fun _ => fun
  | [d1, d2] => { results := [.lit (.bool true)], args := [d1, d2] }
  | _ => none }
def fnExactLikeOfGamesRow : OpenClaim := { program := "ytfipcpbibmhjoab", sum := "1fee9a53439501e757439f0bbef2aad16ee220957852daaf1a521904d9126ac5", func := "loop.example/g01401/laws.FnExactLikeOfGames", spec := "fnExactLikeOfGames", inPlace := ["math.Float64frombits", "math.Float64bits"], unfollowed := true, recurses := true, apart := false }
def FnExactLikeOfGamesSaid : Prop := fnExactLikeOfGamesRow.holds Try.pinned (OpenSpec.ofChange fnExactLikeOfGamesSpec)

/-- ITS FALSE NEIGHBOUR: 'it returns false'. Refute it at one input. -/
def fnExactLikeOfGamesWrong : ChangeSpec := { name := "fnExactLikeOfGames", fn := fun _ => fun
  | [d1, d2] => { results := [.lit (.bool false)], args := [d1, d2] }
  | _ => none }
def FnExactLikeOfGamesWrongFalsely : Prop := fnExactLikeOfGamesRow.holds Try.pinned (OpenSpec.ofChange fnExactLikeOfGamesWrong)

/-- 'laws.FnExactKnockChances': WHATEVER THE INPUT: true; the input reads as it did. -/
def fnExactKnockChancesSpec : ChangeSpec := { name := "fnExactKnockChances", fn := fun _ => fun
  | [d] => { results := [.lit (.bool true)], args := [d] }
  | _ => none }
def fnExactKnockChancesRow : OpenClaim := { program := "ytfipcpbibmhjoab", sum := "1fee9a53439501e757439f0bbef2aad16ee220957852daaf1a521904d9126ac5", func := "loop.example/g01401/laws.FnExactKnockChances", spec := "fnExactKnockChances", inPlace := ["math.Float64bits", "math.Float64frombits"], unfollowed := true, recurses := true, apart := false }
def FnExactKnockChancesSaid : Prop := fnExactKnockChancesRow.holds Try.pinned (OpenSpec.ofChange fnExactKnockChancesSpec)

/-- ITS FALSE NEIGHBOUR: 'it returns false'. Refute it at one input. -/
def fnExactKnockChancesWrong : ChangeSpec := { name := "fnExactKnockChances", fn := fun _ => fun
  | [d] => { results := [.lit (.bool false)], args := [d] }
  | _ => none }
def FnExactKnockChancesWrongFalsely : Prop := fnExactKnockChancesRow.holds Try.pinned (OpenSpec.ofChange fnExactKnockChancesWrong)

/-- 'laws.FnExactValidSaved': WHATEVER THE INPUT: true; the input reads as it did. -/
def fnExactValidSavedSpec : ChangeSpec := { name := "fnExactValidSaved", fn := fun _ => fun
  | [d] => { results := [.lit (.bool true)], args := [d] }
  | _ => none }
def fnExactValidSavedRow : OpenClaim := { program := "ytfipcpbibmhjoab", sum := "1fee9a53439501e757439f0bbef2aad16ee220957852daaf1a521904d9126ac5", func := "loop.example/g01401/laws.FnExactValidSaved", spec := "fnExactValidSaved", unfollowed := true, recurses := true, apart := false }
def FnExactValidSavedSaid : Prop := fnExactValidSavedRow.holds Try.pinned (OpenSpec.ofChange fnExactValidSavedSpec)

/-- ITS FALSE NEIGHBOUR: 'it returns false'. Refute it at one input. -/
def fnExactValidSavedWrong : ChangeSpec := { name := "fnExactValidSaved", fn := fun _ => fun
  | [d] => { results := [.lit (.bool false)], args := [d] }
  | _ => none }
def FnExactValidSavedWrongFalsely : Prop := fnExactValidSavedRow.holds Try.pinned (OpenSpec.ofChange fnExactValidSavedWrong)

/-- 'laws.FnExactSameSaved': WHATEVER THE INPUT: true; the input reads as it did. -/
def fnExactSameSavedSpec : ChangeSpec := { name := "fnExactSameSaved", fn := fun _ => fun
  | [d1, d2] => { results := [.lit (.bool true)], args := [d1, d2] }
  | _ => none }
def fnExactSameSavedRow : OpenClaim := { program := "ytfipcpbibmhjoab", sum := "1fee9a53439501e757439f0bbef2aad16ee220957852daaf1a521904d9126ac5", func := "loop.example/g01401/laws.FnExactSameSaved", spec := "fnExactSameSaved", unfollowed := true, recurses := true, apart := false }
def FnExactSameSavedSaid : Prop := fnExactSameSavedRow.holds Try.pinned (OpenSpec.ofChange fnExactSameSavedSpec)

/-- ITS FALSE NEIGHBOUR: 'it returns false'. Refute it at one input. -/
def fnExactSameSavedWrong : ChangeSpec := { name := "fnExactSameSaved", fn := fun _ => fun
  | [d1, d2] => { results := [.lit (.bool false)], args := [d1, d2] }
  | _ => none }
def FnExactSameSavedWrongFalsely : Prop := fnExactSameSavedRow.holds Try.pinned (OpenSpec.ofChange fnExactSameSavedWrong)

/-- 'laws.FnExactStoreSaved': WHATEVER THE INPUT: true; the input reads as it did. -/
def fnExactStoreSavedSpec : ChangeSpec := { name := "fnExactStoreSaved", fn := fun _ => fun
  | [d] => { results := [.lit (.bool true)], args := [d] }
  | _ => none }
def fnExactStoreSavedRow : OpenClaim := { program := "ytfipcpbibmhjoab", sum := "1fee9a53439501e757439f0bbef2aad16ee220957852daaf1a521904d9126ac5", func := "loop.example/g01401/laws.FnExactStoreSaved", spec := "fnExactStoreSaved", unfollowed := true, recurses := true, apart := false }
def FnExactStoreSavedSaid : Prop := fnExactStoreSavedRow.holds Try.pinned (OpenSpec.ofChange fnExactStoreSavedSpec)

/-- ITS FALSE NEIGHBOUR: 'it returns false'. Refute it at one input. -/
def fnExactStoreSavedWrong : ChangeSpec := { name := "fnExactStoreSaved", fn := fun _ => fun
  | [d] => { results := [.lit (.bool false)], args := [d] }
  | _ => none }
def FnExactStoreSavedWrongFalsely : Prop := fnExactStoreSavedRow.holds Try.pinned (OpenSpec.ofChange fnExactStoreSavedWrong)

/-- 'laws.FnExactStoreAll': WHATEVER THE INPUT: true; the input reads as it did. -/
def fnExactStoreAllSpec : ChangeSpec := { name := "fnExactStoreAll", fn := fun _ => fun
  | [d] => { results := [.lit (.bool true)], args := [d] }
  | _ => none }
def fnExactStoreAllRow : OpenClaim := { program := "ytfipcpbibmhjoab", sum := "1fee9a53439501e757439f0bbef2aad16ee220957852daaf1a521904d9126ac5", func := "loop.example/g01401/laws.FnExactStoreAll", spec := "fnExactStoreAll", inPlace := ["internal/abi.NoEscape"], unfollowed := true, recurses := true, apart := false }
def FnExactStoreAllSaid : Prop := fnExactStoreAllRow.holds Try.pinned (OpenSpec.ofChange fnExactStoreAllSpec)

/-- ITS FALSE NEIGHBOUR: 'it returns false'. Refute it at one input. -/
def fnExactStoreAllWrong : ChangeSpec := { name := "fnExactStoreAll", fn := fun _ => fun
  | [d] => { results := [.lit (.bool false)], args := [d] }
  | _ => none }
def FnExactStoreAllWrongFalsely : Prop := fnExactStoreAllRow.holds Try.pinned (OpenSpec.ofChange fnExactStoreAllWrong)

/- THE SECOND FORM. 'bulk': how many values and letters a reading holds, each counted each time it is reached (what is shared counts as often as it is met; a slice's spare places count too). A statement '..UptoSaid' is the law's where the arguments, and the package variables that the reading takes, are together of bulk at most 1048576: NARROWER than '..Said'. Prove '..Said' where nothing that the law and all that it calls make is longer than what came in: it says more and counts as full. Else prove '..UptoSaid'. A law counts once. -/
mutual
def uptoBulk {H : Type} : DataW H → Nat
  | .lit (.string bytes) => bytes.length + 1
  | .lit _ => 1
  | .nil => 1
  | .ptr d => uptoBulk d + 1
  | .slice elems spare => uptoBulkAll elems + uptoBulkAll spare + 1
  | .agg parts => uptoBulkAll parts + 1
  | .iface _ d => uptoBulk d + 1
  | .map entries => uptoBulkEntries entries + 1
  | .held _ => 1
def uptoBulkAll {H : Type} : List (DataW H) → Nat
  | [] => 0
  | d :: r => uptoBulk d + uptoBulkAll r
def uptoBulkEntries {H : Type} : List (Lit × DataW H) → Nat
  | [] => 0
  | x :: r => uptoBulkEntry x + uptoBulkEntries r
def uptoBulkEntry {H : Type} : Lit × DataW H → Nat
  | (.string bytes, d) => bytes.length + uptoBulk d + 1
  | (_, d) => uptoBulk d + 1
 end
def uptoSmall : (H : Type) → List (DataW H) → Bool := fun _ ds => decide (uptoBulkAll ds ≤ 1048576)
def OpenSpec.upto (s : _root_.Go.ChangeSpec) : _root_.Go.OpenSpec := { _root_.Go.OpenSpec.ofChange s with cond := some uptoSmall }

/-- 'laws.FnExactSwissPairs', WHERE WHAT IT READS IS OF BULK AT MOST 1048576: true; the input reads as it did. -/
def fnExactSwissPairsUptoRow : OpenClaim := { program := "ytfipcpbibmhjoab", sum := "1fee9a53439501e757439f0bbef2aad16ee220957852daaf1a521904d9126ac5", func := "loop.example/g01401/laws.FnExactSwissPairs", spec := "fnExactSwissPairs", unfollowed := true, recurses := true, apart := false, narrowed := true }
def FnExactSwissPairsUptoSaid : Prop := fnExactSwissPairsUptoRow.holds Try.pinned (OpenSpec.upto fnExactSwissPairsSpec)

/-- 'laws.FnExactFitStrengths', WHERE WHAT IT READS IS OF BULK AT MOST 1048576: true; the input reads as it did. -/
def fnExactFitStrengthsUptoRow : OpenClaim := { program := "ytfipcpbibmhjoab", sum := "1fee9a53439501e757439f0bbef2aad16ee220957852daaf1a521904d9126ac5", func := "loop.example/g01401/laws.FnExactFitStrengths", spec := "fnExactFitStrengths", inPlace := ["math.Float64bits", "math.Float64frombits"], unfollowed := true, recurses := true, apart := false, narrowed := true }
def FnExactFitStrengthsUptoSaid : Prop := fnExactFitStrengthsUptoRow.holds Try.pinned (OpenSpec.upto fnExactFitStrengthsSpec)

/-- 'laws.FnExactLikeOfGames', WHERE WHAT IT READS IS OF BULK AT MOST 1048576: true; the input reads as it did. -/
def fnExactLikeOfGamesUptoRow : OpenClaim := { program := "ytfipcpbibmhjoab", sum := "1fee9a53439501e757439f0bbef2aad16ee220957852daaf1a521904d9126ac5", func := "loop.example/g01401/laws.FnExactLikeOfGames", spec := "fnExactLikeOfGames", inPlace := ["math.Float64frombits", "math.Float64bits"], unfollowed := true, recurses := true, apart := false, narrowed := true }
def FnExactLikeOfGamesUptoSaid : Prop := fnExactLikeOfGamesUptoRow.holds Try.pinned (OpenSpec.upto fnExactLikeOfGamesSpec)

/-- 'laws.FnExactKnockChances', WHERE WHAT IT READS IS OF BULK AT MOST 1048576: true; the input reads as it did. -/
def fnExactKnockChancesUptoRow : OpenClaim := { program := "ytfipcpbibmhjoab", sum := "1fee9a53439501e757439f0bbef2aad16ee220957852daaf1a521904d9126ac5", func := "loop.example/g01401/laws.FnExactKnockChances", spec := "fnExactKnockChances", inPlace := ["math.Float64bits", "math.Float64frombits"], unfollowed := true, recurses := true, apart := false, narrowed := true }
def FnExactKnockChancesUptoSaid : Prop := fnExactKnockChancesUptoRow.holds Try.pinned (OpenSpec.upto fnExactKnockChancesSpec)

/-- 'laws.FnExactValidSaved', WHERE WHAT IT READS IS OF BULK AT MOST 1048576: true; the input reads as it did. -/
def fnExactValidSavedUptoRow : OpenClaim := { program := "ytfipcpbibmhjoab", sum := "1fee9a53439501e757439f0bbef2aad16ee220957852daaf1a521904d9126ac5", func := "loop.example/g01401/laws.FnExactValidSaved", spec := "fnExactValidSaved", unfollowed := true, recurses := true, apart := false, narrowed := true }
def FnExactValidSavedUptoSaid : Prop := fnExactValidSavedUptoRow.holds Try.pinned (OpenSpec.upto fnExactValidSavedSpec)

/-- 'laws.FnExactSameSaved', WHERE WHAT IT READS IS OF BULK AT MOST 1048576: true; the input reads as it did. -/
def fnExactSameSavedUptoRow : OpenClaim := { program := "ytfipcpbibmhjoab", sum := "1fee9a53439501e757439f0bbef2aad16ee220957852daaf1a521904d9126ac5", func := "loop.example/g01401/laws.FnExactSameSaved", spec := "fnExactSameSaved", unfollowed := true, recurses := true, apart := false, narrowed := true }
def FnExactSameSavedUptoSaid : Prop := fnExactSameSavedUptoRow.holds Try.pinned (OpenSpec.upto fnExactSameSavedSpec)

/-- 'laws.FnExactStoreSaved', WHERE WHAT IT READS IS OF BULK AT MOST 1048576: true; the input reads as it did. -/
def fnExactStoreSavedUptoRow : OpenClaim := { program := "ytfipcpbibmhjoab", sum := "1fee9a53439501e757439f0bbef2aad16ee220957852daaf1a521904d9126ac5", func := "loop.example/g01401/laws.FnExactStoreSaved", spec := "fnExactStoreSaved", unfollowed := true, recurses := true, apart := false, narrowed := true }
def FnExactStoreSavedUptoSaid : Prop := fnExactStoreSavedUptoRow.holds Try.pinned (OpenSpec.upto fnExactStoreSavedSpec)

/-- 'laws.FnExactStoreAll', WHERE WHAT IT READS IS OF BULK AT MOST 1048576: true; the input reads as it did. -/
def fnExactStoreAllUptoRow : OpenClaim := { program := "ytfipcpbibmhjoab", sum := "1fee9a53439501e757439f0bbef2aad16ee220957852daaf1a521904d9126ac5", func := "loop.example/g01401/laws.FnExactStoreAll", spec := "fnExactStoreAll", inPlace := ["internal/abi.NoEscape"], unfollowed := true, recurses := true, apart := false, narrowed := true }
def FnExactStoreAllUptoSaid : Prop := fnExactStoreAllUptoRow.holds Try.pinned (OpenSpec.upto fnExactStoreAllSpec)

end Rows
end Go.Proofs.Ytfipcpbibmhjoab
