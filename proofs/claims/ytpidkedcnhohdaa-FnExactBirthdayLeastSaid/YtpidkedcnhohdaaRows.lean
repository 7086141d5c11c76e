/-
  No cell of these rows narrows 'for every input' (looked for: loops, veiled, ifaces, maps, wideKeys, modest, calm, conditions, laid).
  DERIVED. THE GIVEN ROWS OF THIS SEAT. 12 by the template 'for every input the law returns true; each argument reads behind the call as it read before'; 0 by the template 'total and deterministic' (their statements: YtpidkedcnhohdaaTotals.lean).
  GIVEN WITH THE SEED: the statements are not yours to turn. If you find one false, say at which input.
  Laid BY PROGRAM, IN A SANDBOX (cutbox-rows.mjs): the forced cells as the released guide's own fill.sh prints them over the translation b3341768e18974d2… (all of the seat's roots in one cut). By AI agents, Wed Nov 11 2026. No macro, syntax, notation, axiom, sorry.
-/
import Derived.Test.YtpidkedcnhohdaaChecked
import GoSem.Claim
import GoSem.ClaimJoined
import GoSem.ClaimMapViews
import Derived.JoinedTies
import Derived.KernelRfl
namespace Go.Proofs.Ytpidkedcnhohdaa
/- THE CELL 'sum', in the pinned program and in every row, IS THE sha256 OF THE DUMP (.gsa) THAT YtpidkedcnhohdaaProg.lean LOADS. Nothing in Lean hashes anything: it is a label: what it is worth is what the hold of that sum in a sandbox is worth. -/
noncomputable def Try.pinned : Pinned := { name := "ytpidkedcnhohdaa", sum := "b3341768e18974d2a09e30f1148dccd160a538d5da725c47de883afa86f7e404", checked := Try.checked }
namespace Rows
def none {H : Type} : Left H := { results := [], args := [] }

/-- 'laws.FnExactRuinChance': WHATEVER THE INPUT: true; the input reads as it did. -/
def fnExactRuinChanceSpec : ChangeSpec := { name := "fnExactRuinChance", fn := fun _ => fun
  | [d1, d2, d3, d4] => { results := [.lit (.bool true)], args := [d1, d2, d3, d4] }
  | _ => none }
def fnExactRuinChanceRow : OpenClaim := { program := "ytpidkedcnhohdaa", sum := "b3341768e18974d2a09e30f1148dccd160a538d5da725c47de883afa86f7e404", func := "loop.example/g01401/laws.FnExactRuinChance", spec := "fnExactRuinChance", unfollowed := true, recurses := true, apart := false }
def FnExactRuinChanceSaid : Prop := fnExactRuinChanceRow.holds Try.pinned (OpenSpec.ofChange fnExactRuinChanceSpec)

/-- ITS FALSE NEIGHBOUR: 'it returns false'. Refute it at one input. -/
def fnExactRuinChanceWrong : ChangeSpec := { name := "fnExactRuinChance", fn := fun _ => fun
  | [d1, d2, d3, d4] => { results := [.lit (.bool false)], args := [d1, d2, d3, d4] }
  | _ => none }
def FnExactRuinChanceWrongFalsely : Prop := fnExactRuinChanceRow.holds Try.pinned (OpenSpec.ofChange fnExactRuinChanceWrong)

/-- 'laws.FnExactFairTime': WHATEVER THE INPUT: true; the input reads as it did. -/
def fnExactFairTimeSpec : ChangeSpec := { name := "fnExactFairTime", fn := fun _ => fun
  | [d1, d2] => { results := [.lit (.bool true)], args := [d1, d2] }
  | _ => none }
def fnExactFairTimeRow : OpenClaim := { program := "ytpidkedcnhohdaa", sum := "b3341768e18974d2a09e30f1148dccd160a538d5da725c47de883afa86f7e404", func := "loop.example/g01401/laws.FnExactFairTime", spec := "fnExactFairTime", apart := false }
def FnExactFairTimeSaid : Prop := fnExactFairTimeRow.holds Try.pinned (OpenSpec.ofChange fnExactFairTimeSpec)

/-- ITS FALSE NEIGHBOUR: 'it returns false'. Refute it at one input. -/
def fnExactFairTimeWrong : ChangeSpec := { name := "fnExactFairTime", fn := fun _ => fun
  | [d1, d2] => { results := [.lit (.bool false)], args := [d1, d2] }
  | _ => none }
def FnExactFairTimeWrongFalsely : Prop := fnExactFairTimeRow.holds Try.pinned (OpenSpec.ofChange fnExactFairTimeWrong)

/-- 'laws.FnExactCouponMean': WHATEVER THE INPUT: true; the input reads as it did. -/
def fnExactCouponMeanSpec : ChangeSpec := { name := "fnExactCouponMean", fn := fun _ => fun
  | [d] => { results := [.lit (.bool true)], args := [d] }
  | _ => none }
def fnExactCouponMeanRow : OpenClaim := { program := "ytpidkedcnhohdaa", sum := "b3341768e18974d2a09e30f1148dccd160a538d5da725c47de883afa86f7e404", func := "loop.example/g01401/laws.FnExactCouponMean", spec := "fnExactCouponMean", apart := false }
def FnExactCouponMeanSaid : Prop := fnExactCouponMeanRow.holds Try.pinned (OpenSpec.ofChange fnExactCouponMeanSpec)

/-- ITS FALSE NEIGHBOUR: 'it returns false'. Refute it at one input. -/
def fnExactCouponMeanWrong : ChangeSpec := { name := "fnExactCouponMean", fn := fun _ => fun
  | [d] => { results := [.lit (.bool false)], args := [d] }
  | _ => none }
def FnExactCouponMeanWrongFalsely : Prop := fnExactCouponMeanRow.holds Try.pinned (OpenSpec.ofChange fnExactCouponMeanWrong)

/-- 'laws.FnExactBirthdayMiss': WHATEVER THE INPUT: true; the input reads as it did. -/
def fnExactBirthdayMissSpec : ChangeSpec := { name := "fnExactBirthdayMiss", fn := fun _ => fun
  | [d1, d2] => { results := [.lit (.bool true)], args := [d1, d2] }
  | _ => none }
def fnExactBirthdayMissRow : OpenClaim := { program := "ytpidkedcnhohdaa", sum := "b3341768e18974d2a09e30f1148dccd160a538d5da725c47de883afa86f7e404", func := "loop.example/g01401/laws.FnExactBirthdayMiss", spec := "fnExactBirthdayMiss", unfollowed := true, recurses := true, apart := false }
def FnExactBirthdayMissSaid : Prop := fnExactBirthdayMissRow.holds Try.pinned (OpenSpec.ofChange fnExactBirthdayMissSpec)

/-- ITS FALSE NEIGHBOUR: 'it returns false'. Refute it at one input. -/
def fnExactBirthdayMissWrong : ChangeSpec := { name := "fnExactBirthdayMiss", fn := fun _ => fun
  | [d1, d2] => { results := [.lit (.bool false)], args := [d1, d2] }
  | _ => none }
def FnExactBirthdayMissWrongFalsely : Prop := fnExactBirthdayMissRow.holds Try.pinned (OpenSpec.ofChange fnExactBirthdayMissWrong)

/-- 'laws.FnExactBirthdayLeast': WHATEVER THE INPUT: true; the input reads as it did. -/
def fnExactBirthdayLeastSpec : ChangeSpec := { name := "fnExactBirthdayLeast", fn := fun _ => fun
  | [d] => { results := [.lit (.bool true)], args := [d] }
  | _ => none }
def fnExactBirthdayLeastRow : OpenClaim := { program := "ytpidkedcnhohdaa", sum := "b3341768e18974d2a09e30f1148dccd160a538d5da725c47de883afa86f7e404", func := "loop.example/g01401/laws.FnExactBirthdayLeast", spec := "fnExactBirthdayLeast", apart := false }
def FnExactBirthdayLeastSaid : Prop := fnExactBirthdayLeastRow.holds Try.pinned (OpenSpec.ofChange fnExactBirthdayLeastSpec)

/-- ITS FALSE NEIGHBOUR: 'it returns false'. Refute it at one input. -/
def fnExactBirthdayLeastWrong : ChangeSpec := { name := "fnExactBirthdayLeast", fn := fun _ => fun
  | [d] => { results := [.lit (.bool false)], args := [d] }
  | _ => none }
def FnExactBirthdayLeastWrongFalsely : Prop := fnExactBirthdayLeastRow.holds Try.pinned (OpenSpec.ofChange fnExactBirthdayLeastWrong)

/-- 'laws.FnExactMatchChance': WHATEVER THE INPUT: true; the input reads as it did. -/
def fnExactMatchChanceSpec : ChangeSpec := { name := "fnExactMatchChance", fn := fun _ => fun
  | [d1, d2] => { results := [.lit (.bool true)], args := [d1, d2] }
  | _ => none }
def fnExactMatchChanceRow : OpenClaim := { program := "ytpidkedcnhohdaa", sum := "b3341768e18974d2a09e30f1148dccd160a538d5da725c47de883afa86f7e404", func := "loop.example/g01401/laws.FnExactMatchChance", spec := "fnExactMatchChance", unfollowed := true, recurses := true, apart := false }
def FnExactMatchChanceSaid : Prop := fnExactMatchChanceRow.holds Try.pinned (OpenSpec.ofChange fnExactMatchChanceSpec)

/-- ITS FALSE NEIGHBOUR: 'it returns false'. Refute it at one input. -/
def fnExactMatchChanceWrong : ChangeSpec := { name := "fnExactMatchChance", fn := fun _ => fun
  | [d1, d2] => { results := [.lit (.bool false)], args := [d1, d2] }
  | _ => none }
def FnExactMatchChanceWrongFalsely : Prop := fnExactMatchChanceRow.holds Try.pinned (OpenSpec.ofChange fnExactMatchChanceWrong)

/-- 'laws.FnExactBallotChance': WHATEVER THE INPUT: true; the input reads as it did. -/
def fnExactBallotChanceSpec : ChangeSpec := { name := "fnExactBallotChance", fn := fun _ => fun
  | [d1, d2] => { results := [.lit (.bool true)], args := [d1, d2] }
  | _ => none }
def fnExactBallotChanceRow : OpenClaim := { program := "ytpidkedcnhohdaa", sum := "b3341768e18974d2a09e30f1148dccd160a538d5da725c47de883afa86f7e404", func := "loop.example/g01401/laws.FnExactBallotChance", spec := "fnExactBallotChance", apart := false }
def FnExactBallotChanceSaid : Prop := fnExactBallotChanceRow.holds Try.pinned (OpenSpec.ofChange fnExactBallotChanceSpec)

/-- ITS FALSE NEIGHBOUR: 'it returns false'. Refute it at one input. -/
def fnExactBallotChanceWrong : ChangeSpec := { name := "fnExactBallotChance", fn := fun _ => fun
  | [d1, d2] => { results := [.lit (.bool false)], args := [d1, d2] }
  | _ => none }
def FnExactBallotChanceWrongFalsely : Prop := fnExactBallotChanceRow.holds Try.pinned (OpenSpec.ofChange fnExactBallotChanceWrong)

/-- 'laws.FnExactRunWays': WHATEVER THE INPUT: true; the input reads as it did. -/
def fnExactRunWaysSpec : ChangeSpec := { name := "fnExactRunWays", fn := fun _ => fun
  | [d1, d2, d3] => { results := [.lit (.bool true)], args := [d1, d2, d3] }
  | _ => none }
def fnExactRunWaysRow : OpenClaim := { program := "ytpidkedcnhohdaa", sum := "b3341768e18974d2a09e30f1148dccd160a538d5da725c47de883afa86f7e404", func := "loop.example/g01401/laws.FnExactRunWays", spec := "fnExactRunWays", apart := false }
def FnExactRunWaysSaid : Prop := fnExactRunWaysRow.holds Try.pinned (OpenSpec.ofChange fnExactRunWaysSpec)

/-- ITS FALSE NEIGHBOUR: 'it returns false'. Refute it at one input. -/
def fnExactRunWaysWrong : ChangeSpec := { name := "fnExactRunWays", fn := fun _ => fun
  | [d1, d2, d3] => { results := [.lit (.bool false)], args := [d1, d2, d3] }
  | _ => none }
def FnExactRunWaysWrongFalsely : Prop := fnExactRunWaysRow.holds Try.pinned (OpenSpec.ofChange fnExactRunWaysWrong)

/-- 'laws.FnExactUrnChance': WHATEVER THE INPUT: true; the input reads as it did. -/
def fnExactUrnChanceSpec : ChangeSpec := { name := "fnExactUrnChance", fn := fun _ => fun
  | [d1, d2, d3, d4] => { results := [.lit (.bool true)], args := [d1, d2, d3, d4] }
  | _ => none }
def fnExactUrnChanceRow : OpenClaim := { program := "ytpidkedcnhohdaa", sum := "b3341768e18974d2a09e30f1148dccd160a538d5da725c47de883afa86f7e404", func := "loop.example/g01401/laws.FnExactUrnChance", spec := "fnExactUrnChance", apart := false }
def FnExactUrnChanceSaid : Prop := fnExactUrnChanceRow.holds Try.pinned (OpenSpec.ofChange fnExactUrnChanceSpec)

/-- ITS FALSE NEIGHBOUR: 'it returns false'. Refute it at one input. -/
def fnExactUrnChanceWrong : ChangeSpec := { name := "fnExactUrnChance", fn := fun _ => fun
  | [d1, d2, d3, d4] => { results := [.lit (.bool false)], args := [d1, d2, d3, d4] }
  | _ => none }
def FnExactUrnChanceWrongFalsely : Prop := fnExactUrnChanceRow.holds Try.pinned (OpenSpec.ofChange fnExactUrnChanceWrong)

/-- 'laws.FnExactUrnBack': WHATEVER THE INPUT: true; the input reads as it did. -/
def fnExactUrnBackSpec : ChangeSpec := { name := "fnExactUrnBack", fn := fun _ => fun
  | [d1, d2, d3, d4] => { results := [.lit (.bool true)], args := [d1, d2, d3, d4] }
  | _ => none }
def fnExactUrnBackRow : OpenClaim := { program := "ytpidkedcnhohdaa", sum := "b3341768e18974d2a09e30f1148dccd160a538d5da725c47de883afa86f7e404", func := "loop.example/g01401/laws.FnExactUrnBack", spec := "fnExactUrnBack", unfollowed := true, recurses := true, apart := false }
def FnExactUrnBackSaid : Prop := fnExactUrnBackRow.holds Try.pinned (OpenSpec.ofChange fnExactUrnBackSpec)

/-- ITS FALSE NEIGHBOUR: 'it returns false'. Refute it at one input. -/
def fnExactUrnBackWrong : ChangeSpec := { name := "fnExactUrnBack", fn := fun _ => fun
  | [d1, d2, d3, d4] => { results := [.lit (.bool false)], args := [d1, d2, d3, d4] }
  | _ => none }
def FnExactUrnBackWrongFalsely : Prop := fnExactUrnBackRow.holds Try.pinned (OpenSpec.ofChange fnExactUrnBackWrong)

/-- 'laws.FnExactUrnGrows': WHATEVER THE INPUT: true; the input reads as it did. -/
def fnExactUrnGrowsSpec : ChangeSpec := { name := "fnExactUrnGrows", fn := fun _ => fun
  | [d1, d2, d3, d4, d5] => { results := [.lit (.bool true)], args := [d1, d2, d3, d4, d5] }
  | _ => none }
def fnExactUrnGrowsRow : OpenClaim := { program := "ytpidkedcnhohdaa", sum := "b3341768e18974d2a09e30f1148dccd160a538d5da725c47de883afa86f7e404", func := "loop.example/g01401/laws.FnExactUrnGrows", spec := "fnExactUrnGrows", unfollowed := true, recurses := true, apart := false }
def FnExactUrnGrowsSaid : Prop := fnExactUrnGrowsRow.holds Try.pinned (OpenSpec.ofChange fnExactUrnGrowsSpec)

/-- ITS FALSE NEIGHBOUR: 'it returns false'. Refute it at one input. -/
def fnExactUrnGrowsWrong : ChangeSpec := { name := "fnExactUrnGrows", fn := fun _ => fun
  | [d1, d2, d3, d4, d5] => { results := [.lit (.bool false)], args := [d1, d2, d3, d4, d5] }
  | _ => none }
def FnExactUrnGrowsWrongFalsely : Prop := fnExactUrnGrowsRow.holds Try.pinned (OpenSpec.ofChange fnExactUrnGrowsWrong)

/-- 'laws.FnExactUrnMean': WHATEVER THE INPUT: true; the input reads as it did. -/
def fnExactUrnMeanSpec : ChangeSpec := { name := "fnExactUrnMean", fn := fun _ => fun
  | [d1, d2] => { results := [.lit (.bool true)], args := [d1, d2] }
  | _ => none }
def fnExactUrnMeanRow : OpenClaim := { program := "ytpidkedcnhohdaa", sum := "b3341768e18974d2a09e30f1148dccd160a538d5da725c47de883afa86f7e404", func := "loop.example/g01401/laws.FnExactUrnMean", spec := "fnExactUrnMean", apart := false }
def FnExactUrnMeanSaid : Prop := fnExactUrnMeanRow.holds Try.pinned (OpenSpec.ofChange fnExactUrnMeanSpec)

/-- ITS FALSE NEIGHBOUR: 'it returns false'. Refute it at one input. -/
def fnExactUrnMeanWrong : ChangeSpec := { name := "fnExactUrnMean", fn := fun _ => fun
  | [d1, d2] => { results := [.lit (.bool false)], args := [d1, d2] }
  | _ => none }
def FnExactUrnMeanWrongFalsely : Prop := fnExactUrnMeanRow.holds Try.pinned (OpenSpec.ofChange fnExactUrnMeanWrong)

/- THE SECOND FORM. 'bulk': how many values and letters a reading holds, each counted each time it is reached (what is shared counts as often as it is met; a slice's spare places count too). A statement '..UptoSaid' is the law's where the arguments, and the package variables that the reading takes, are together of bulk at most 1048576: NARROWER than '..Said'. Prove '..Said' where nothing that the law and all that it calls make is longer than what came in: it says more and counts as full. Else prove '..UptoSaid'. A law counts once. -/
mutual
def uptoBulk {H : Type} : DataW H → Nat
  | .lit (.string bytes) => bytes.length + 1
  | .lit _ => 1
  | .nil => 1
  | .ptr d => uptoBulk d + 1
  | .slice elems spare => uptoBulkAll elems + uptoBulkAll spare + 1
  | .agg parts => uptoBulkAll parts + 1
  | .iface _ d => uptoBulk d + 1
  | .map entries => uptoBulkEntries entries + 1
  | .held _ => 1
def uptoBulkAll {H : Type} : List (DataW H) → Nat
  | [] => 0
  | d :: r => uptoBulk d + uptoBulkAll r
def uptoBulkEntries {H : Type} : List (Lit × DataW H) → Nat
  | [] => 0
  | x :: r => uptoBulkEntry x + uptoBulkEntries r
def uptoBulkEntry {H : Type} : Lit × DataW H → Nat
  | (.string bytes, d) => bytes.length + uptoBulk d + 1
  | (_, d) => uptoBulk d + 1
 end
def uptoSmall : (H : Type) → List (DataW H) → Bool := fun _ ds => decide (uptoBulkAll ds ≤ 1048576)
def OpenSpec.upto (s : _root_.Go.ChangeSpec) : _root_.Go.OpenSpec := { _root_.Go.OpenSpec.ofChange s with cond := some uptoSmall }

/-- 'laws.FnExactRuinChance', WHERE WHAT IT READS IS OF BULK AT MOST 1048576: true; the input reads as it did. -/
def fnExactRuinChanceUptoRow : OpenClaim := { program := "ytpidkedcnhohdaa", sum := "b3341768e18974d2a09e30f1148dccd160a538d5da725c47de883afa86f7e404", func := "loop.example/g01401/laws.FnExactRuinChance", spec := "fnExactRuinChance", unfollowed := true, recurses := true, apart := false, narrowed := true }
def FnExactRuinChanceUptoSaid : Prop := fnExactRuinChanceUptoRow.holds Try.pinned (OpenSpec.upto fnExactRuinChanceSpec)

/-- 'laws.FnExactFairTime', WHERE WHAT IT READS IS OF BULK AT MOST 1048576: true; the input reads as it did. -/
def fnExactFairTimeUptoRow : OpenClaim := { program := "ytpidkedcnhohdaa", sum := "b3341768e18974d2a09e30f1148dccd160a538d5da725c47de883afa86f7e404", func := "loop.example/g01401/laws.FnExactFairTime", spec := "fnExactFairTime", apart := false, narrowed := true }
def FnExactFairTimeUptoSaid : Prop := fnExactFairTimeUptoRow.holds Try.pinned (OpenSpec.upto fnExactFairTimeSpec)

/-- 'laws.FnExactCouponMean', WHERE WHAT IT READS IS OF BULK AT MOST 1048576: true; the input reads as it did. -/
def fnExactCouponMeanUptoRow : OpenClaim := { program := "ytpidkedcnhohdaa", sum := "b3341768e18974d2a09e30f1148dccd160a538d5da725c47de883afa86f7e404", func := "loop.example/g01401/laws.FnExactCouponMean", spec := "fnExactCouponMean", apart := false, narrowed := true }
def FnExactCouponMeanUptoSaid : Prop := fnExactCouponMeanUptoRow.holds Try.pinned (OpenSpec.upto fnExactCouponMeanSpec)

/-- 'laws.FnExactBirthdayMiss', WHERE WHAT IT READS IS OF BULK AT MOST 1048576: true; the input reads as it did. -/
def fnExactBirthdayMissUptoRow : OpenClaim := { program := "ytpidkedcnhohdaa", sum := "b3341768e18974d2a09e30f1148dccd160a538d5da725c47de883afa86f7e404", func := "loop.example/g01401/laws.FnExactBirthdayMiss", spec := "fnExactBirthdayMiss", unfollowed := true, recurses := true, apart := false, narrowed := true }
def FnExactBirthdayMissUptoSaid : Prop := fnExactBirthdayMissUptoRow.holds Try.pinned (OpenSpec.upto fnExactBirthdayMissSpec)

/-- 'laws.FnExactBirthdayLeast', WHERE WHAT IT READS IS OF BULK AT MOST 1048576: true; the input reads as it did. -/
def fnExactBirthdayLeastUptoRow : OpenClaim := { program := "ytpidkedcnhohdaa", sum := "b3341768e18974d2a09e30f1148dccd160a538d5da725c47de883afa86f7e404", func := "loop.example/g01401/laws.FnExactBirthdayLeast", spec := "fnExactBirthdayLeast", apart := false, narrowed := true }
def FnExactBirthdayLeastUptoSaid : Prop := fnExactBirthdayLeastUptoRow.holds Try.pinned (OpenSpec.upto fnExactBirthdayLeastSpec)

/-- 'laws.FnExactMatchChance', WHERE WHAT IT READS IS OF BULK AT MOST 1048576: true; the input reads as it did. -/
def fnExactMatchChanceUptoRow : OpenClaim := { program := "ytpidkedcnhohdaa", sum := "b3341768e18974d2a09e30f1148dccd160a538d5da725c47de883afa86f7e404", func := "loop.example/g01401/laws.FnExactMatchChance", spec := "fnExactMatchChance", unfollowed := true, recurses := true, apart := false, narrowed := true }
def FnExactMatchChanceUptoSaid : Prop := fnExactMatchChanceUptoRow.holds Try.pinned (OpenSpec.upto fnExactMatchChanceSpec)

/-- 'laws.FnExactBallotChance', WHERE WHAT IT READS IS OF BULK AT MOST 1048576: true; the input reads as it did. -/
def fnExactBallotChanceUptoRow : OpenClaim := { program := "ytpidkedcnhohdaa", sum := "b3341768e18974d2a09e30f1148dccd160a538d5da725c47de883afa86f7e404", func := "loop.example/g01401/laws.FnExactBallotChance", spec := "fnExactBallotChance", apart := false, narrowed := true }
def FnExactBallotChanceUptoSaid : Prop := fnExactBallotChanceUptoRow.holds Try.pinned (OpenSpec.upto fnExactBallotChanceSpec)

/-- 'laws.FnExactRunWays', WHERE WHAT IT READS IS OF BULK AT MOST 1048576: true; the input reads as it did. -/
def fnExactRunWaysUptoRow : OpenClaim := { program := "ytpidkedcnhohdaa", sum := "b3341768e18974d2a09e30f1148dccd160a538d5da725c47de883afa86f7e404", func := "loop.example/g01401/laws.FnExactRunWays", spec := "fnExactRunWays", apart := false, narrowed := true }
def FnExactRunWaysUptoSaid : Prop := fnExactRunWaysUptoRow.holds Try.pinned (OpenSpec.upto fnExactRunWaysSpec)

/-- 'laws.FnExactUrnChance', WHERE WHAT IT READS IS OF BULK AT MOST 1048576: true; the input reads as it did. -/
def fnExactUrnChanceUptoRow : OpenClaim := { program := "ytpidkedcnhohdaa", sum := "b3341768e18974d2a09e30f1148dccd160a538d5da725c47de883afa86f7e404", func := "loop.example/g01401/laws.FnExactUrnChance", spec := "fnExactUrnChance", apart := false, narrowed := true }
def FnExactUrnChanceUptoSaid : Prop := fnExactUrnChanceUptoRow.holds Try.pinned (OpenSpec.upto fnExactUrnChanceSpec)

/-- 'laws.FnExactUrnBack', WHERE WHAT IT READS IS OF BULK AT MOST 1048576: true; the input reads as it did. -/
def fnExactUrnBackUptoRow : OpenClaim := { program := "ytpidkedcnhohdaa", sum := "b3341768e18974d2a09e30f1148dccd160a538d5da725c47de883afa86f7e404", func := "loop.example/g01401/laws.FnExactUrnBack", spec := "fnExactUrnBack", unfollowed := true, recurses := true, apart := false, narrowed := true }
def FnExactUrnBackUptoSaid : Prop := fnExactUrnBackUptoRow.holds Try.pinned (OpenSpec.upto fnExactUrnBackSpec)

/-- 'laws.FnExactUrnGrows', WHERE WHAT IT READS IS OF BULK AT MOST 1048576: true; the input reads as it did. -/
def fnExactUrnGrowsUptoRow : OpenClaim := { program := "ytpidkedcnhohdaa", sum := "b3341768e18974d2a09e30f1148dccd160a538d5da725c47de883afa86f7e404", func := "loop.example/g01401/laws.FnExactUrnGrows", spec := "fnExactUrnGrows", unfollowed := true, recurses := true, apart := false, narrowed := true }
def FnExactUrnGrowsUptoSaid : Prop := fnExactUrnGrowsUptoRow.holds Try.pinned (OpenSpec.upto fnExactUrnGrowsSpec)

/-- 'laws.FnExactUrnMean', WHERE WHAT IT READS IS OF BULK AT MOST 1048576: true; the input reads as it did. -/
def fnExactUrnMeanUptoRow : OpenClaim := { program := "ytpidkedcnhohdaa", sum := "b3341768e18974d2a09e30f1148dccd160a538d5da725c47de883afa86f7e404", func := "loop.example/g01401/laws.FnExactUrnMean", spec := "fnExactUrnMean", apart := false, narrowed := true }
def FnExactUrnMeanUptoSaid : Prop := fnExactUrnMeanUptoRow.holds Try.pinned (OpenSpec.upto fnExactUrnMeanSpec)

end Rows
end Go.Proofs.Ytpidkedcnhohdaa
