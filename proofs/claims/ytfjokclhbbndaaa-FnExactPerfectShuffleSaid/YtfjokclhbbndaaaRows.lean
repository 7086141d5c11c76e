/-
  No cell of these rows narrows 'for every input' (looked for: loops, veiled, ifaces, maps, wideKeys, modest, calm, conditions, laid).
  DERIVED. THE GIVEN ROWS OF THIS SEAT. 12 by the template 'for every input the law returns true; each argument reads behind the call as it read before'; 0 by the template 'total and deterministic' (their statements: YtfjokclhbbndaaaTotals.lean).
  GIVEN WITH THE SEED: the statements are not yours to turn. If you find one false, say at which input.
  Laid BY PROGRAM, IN A SANDBOX (cutbox-rows.mjs): the forced cells as the released guide's own fill.sh prints them over the translation a0a669bf752f23de… (all of the seat's roots in one cut). By AI agents, Wed Nov 11 2026. No macro, syntax, notation, axiom, sorry.
-/
import Derived.Test.YtfjokclhbbndaaaChecked
import GoSem.Claim
import GoSem.ClaimJoined
import GoSem.ClaimMapViews
import Derived.JoinedTies
import Derived.KernelRfl
namespace Go.Proofs.Ytfjokclhbbndaaa
/- THE CELL 'sum', in the pinned program and in every row, IS THE sha256 OF THE DUMP (.gsa) THAT YtfjokclhbbndaaaProg.lean LOADS. Nothing in Lean hashes anything: it is a label: what it is worth is what the hold of that sum in a sandbox is worth. -/
noncomputable def Try.pinned : Pinned := { name := "ytfjokclhbbndaaa", sum := "a0a669bf752f23de5a5a3fbb9cf8f80dc1c150c48699e9292768193536811875", checked := Try.checked }
namespace Rows
def none {H : Type} : Left H := { results := [], args := [] }

/-- 'laws.FnExactIsDeck': WHATEVER THE INPUT: true; the input reads as it did. -/
def fnExactIsDeckSpec : ChangeSpec := { name := "fnExactIsDeck", fn := fun _ => fun
  | [d] => { results := [.lit (.bool true)], args := [d] }
  | _ => none }
def fnExactIsDeckRow : OpenClaim := { program := "ytfjokclhbbndaaa", sum := "a0a669bf752f23de5a5a3fbb9cf8f80dc1c150c48699e9292768193536811875", func := "loop.example/g01401/laws.FnExactIsDeck", spec := "fnExactIsDeck", apart := false }
def FnExactIsDeckSaid : Prop := fnExactIsDeckRow.holds Try.pinned (OpenSpec.ofChange fnExactIsDeckSpec)

/-- ITS FALSE NEIGHBOUR: 'it returns false'. Refute it at one input. -/
def fnExactIsDeckWrong : ChangeSpec := { name := "fnExactIsDeck", fn := fun _ => fun
  | [d] => { results := [.lit (.bool false)], args := [d] }
  | _ => none }
def FnExactIsDeckWrongFalsely : Prop := fnExactIsDeckRow.holds Try.pinned (OpenSpec.ofChange fnExactIsDeckWrong)

/-- 'laws.FnExactNewDeck': WHATEVER THE INPUT: true; the input reads as it did. -/
def fnExactNewDeckSpec : ChangeSpec := { name := "fnExactNewDeck", fn := fun _ => fun
  | [d] => { results := [.lit (.bool true)], args := [d] }
  | _ => none }
def fnExactNewDeckRow : OpenClaim := { program := "ytfjokclhbbndaaa", sum := "a0a669bf752f23de5a5a3fbb9cf8f80dc1c150c48699e9292768193536811875", func := "loop.example/g01401/laws.FnExactNewDeck", spec := "fnExactNewDeck", unfollowed := true, recurses := true, apart := false }
def FnExactNewDeckSaid : Prop := fnExactNewDeckRow.holds Try.pinned (OpenSpec.ofChange fnExactNewDeckSpec)

/-- ITS FALSE NEIGHBOUR: 'it returns false'. Refute it at one input. -/
def fnExactNewDeckWrong : ChangeSpec := { name := "fnExactNewDeck", fn := fun _ => fun
  | [d] => { results := [.lit (.bool false)], args := [d] }
  | _ => none }
def FnExactNewDeckWrongFalsely : Prop := fnExactNewDeckRow.holds Try.pinned (OpenSpec.ofChange fnExactNewDeckWrong)

/-- 'laws.FnExactTurnDeck': WHATEVER THE INPUT: true; the input reads as it did. -/
def fnExactTurnDeckSpec : ChangeSpec := { name := "fnExactTurnDeck", fn := fun _ => fun
  | [d] => { results := [.lit (.bool true)], args := [d] }
  | _ => none }
def fnExactTurnDeckRow : OpenClaim := { program := "ytfjokclhbbndaaa", sum := "a0a669bf752f23de5a5a3fbb9cf8f80dc1c150c48699e9292768193536811875", func := "loop.example/g01401/laws.FnExactTurnDeck", spec := "fnExactTurnDeck", unfollowed := true, recurses := true, apart := false }
def FnExactTurnDeckSaid : Prop := fnExactTurnDeckRow.holds Try.pinned (OpenSpec.ofChange fnExactTurnDeckSpec)

/-- ITS FALSE NEIGHBOUR: 'it returns false'. Refute it at one input. -/
def fnExactTurnDeckWrong : ChangeSpec := { name := "fnExactTurnDeck", fn := fun _ => fun
  | [d] => { results := [.lit (.bool false)], args := [d] }
  | _ => none }
def FnExactTurnDeckWrongFalsely : Prop := fnExactTurnDeckRow.holds Try.pinned (OpenSpec.ofChange fnExactTurnDeckWrong)

/-- 'laws.FnExactCutDeck': WHATEVER THE INPUT: true; the input reads as it did. -/
def fnExactCutDeckSpec : ChangeSpec := { name := "fnExactCutDeck", fn := fun _ => fun
  | [d1, d2] => { results := [.lit (.bool true)], args := [d1, d2] }
  | _ => none }
def fnExactCutDeckRow : OpenClaim := { program := "ytfjokclhbbndaaa", sum := "a0a669bf752f23de5a5a3fbb9cf8f80dc1c150c48699e9292768193536811875", func := "loop.example/g01401/laws.FnExactCutDeck", spec := "fnExactCutDeck", unfollowed := true, recurses := true, apart := false }
def FnExactCutDeckSaid : Prop := fnExactCutDeckRow.holds Try.pinned (OpenSpec.ofChange fnExactCutDeckSpec)

/-- ITS FALSE NEIGHBOUR: 'it returns false'. Refute it at one input. -/
def fnExactCutDeckWrong : ChangeSpec := { name := "fnExactCutDeck", fn := fun _ => fun
  | [d1, d2] => { results := [.lit (.bool false)], args := [d1, d2] }
  | _ => none }
def FnExactCutDeckWrongFalsely : Prop := fnExactCutDeckRow.holds Try.pinned (OpenSpec.ofChange fnExactCutDeckWrong)

/-- 'laws.FnExactPerfectShuffle': WHATEVER THE INPUT: true; the input reads as it did. -/
def fnExactPerfectShuffleSpec : ChangeSpec := { name := "fnExactPerfectShuffle", fn := fun _ => fun
  | [d1, d2] => { results := [.lit (.bool true)], args := [d1, d2] }
  | _ => none }
def fnExactPerfectShuffleRow : OpenClaim := { program := "ytfjokclhbbndaaa", sum := "a0a669bf752f23de5a5a3fbb9cf8f80dc1c150c48699e9292768193536811875", func := "loop.example/g01401/laws.FnExactPerfectShuffle", spec := "fnExactPerfectShuffle", unfollowed := true, recurses := true, apart := false }
def FnExactPerfectShuffleSaid : Prop := fnExactPerfectShuffleRow.holds Try.pinned (OpenSpec.ofChange fnExactPerfectShuffleSpec)

/-- ITS FALSE NEIGHBOUR: 'it returns false'. Refute it at one input. -/
def fnExactPerfectShuffleWrong : ChangeSpec := { name := "fnExactPerfectShuffle", fn := fun _ => fun
  | [d1, d2] => { results := [.lit (.bool false)], args := [d1, d2] }
  | _ => none }
def FnExactPerfectShuffleWrongFalsely : Prop := fnExactPerfectShuffleRow.holds Try.pinned (OpenSpec.ofChange fnExactPerfectShuffleWrong)

/-- 'laws.FnExactShuffleOrder': WHATEVER THE INPUT: true; the input reads as it did. -/
def fnExactShuffleOrderSpec : ChangeSpec := { name := "fnExactShuffleOrder", fn := fun _ => fun
  | [d1, d2] => { results := [.lit (.bool true)], args := [d1, d2] }
  | _ => none }
def fnExactShuffleOrderRow : OpenClaim := { program := "ytfjokclhbbndaaa", sum := "a0a669bf752f23de5a5a3fbb9cf8f80dc1c150c48699e9292768193536811875", func := "loop.example/g01401/laws.FnExactShuffleOrder", spec := "fnExactShuffleOrder", unfollowed := true, recurses := true, apart := false }
def FnExactShuffleOrderSaid : Prop := fnExactShuffleOrderRow.holds Try.pinned (OpenSpec.ofChange fnExactShuffleOrderSpec)

/-- ITS FALSE NEIGHBOUR: 'it returns false'. Refute it at one input. -/
def fnExactShuffleOrderWrong : ChangeSpec := { name := "fnExactShuffleOrder", fn := fun _ => fun
  | [d1, d2] => { results := [.lit (.bool false)], args := [d1, d2] }
  | _ => none }
def FnExactShuffleOrderWrongFalsely : Prop := fnExactShuffleOrderRow.holds Try.pinned (OpenSpec.ofChange fnExactShuffleOrderWrong)

/-- 'laws.FnExactRiffleBy': WHATEVER THE INPUT: true; the input reads as it did. -/
def fnExactRiffleBySpec : ChangeSpec := { name := "fnExactRiffleBy", fn := fun _ => fun
  | [d1, d2] => { results := [.lit (.bool true)], args := [d1, d2] }
  | _ => none }
def fnExactRiffleByRow : OpenClaim := { program := "ytfjokclhbbndaaa", sum := "a0a669bf752f23de5a5a3fbb9cf8f80dc1c150c48699e9292768193536811875", func := "loop.example/g01401/laws.FnExactRiffleBy", spec := "fnExactRiffleBy", unfollowed := true, recurses := true, apart := false }
def FnExactRiffleBySaid : Prop := fnExactRiffleByRow.holds Try.pinned (OpenSpec.ofChange fnExactRiffleBySpec)

/-- ITS FALSE NEIGHBOUR: 'it returns false'. Refute it at one input. -/
def fnExactRiffleByWrong : ChangeSpec := { name := "fnExactRiffleBy", fn := fun _ => fun
  | [d1, d2] => { results := [.lit (.bool false)], args := [d1, d2] }
  | _ => none }
def FnExactRiffleByWrongFalsely : Prop := fnExactRiffleByRow.holds Try.pinned (OpenSpec.ofChange fnExactRiffleByWrong)

/-- 'laws.FnExactUnriffleBy': WHATEVER THE INPUT: true; the input reads as it did. -/
def fnExactUnriffleBySpec : ChangeSpec := { name := "fnExactUnriffleBy", fn := fun _ => fun
  | [d1, d2] => { results := [.lit (.bool true)], args := [d1, d2] }
  | _ => none }
def fnExactUnriffleByRow : OpenClaim := { program := "ytfjokclhbbndaaa", sum := "a0a669bf752f23de5a5a3fbb9cf8f80dc1c150c48699e9292768193536811875", func := "loop.example/g01401/laws.FnExactUnriffleBy", spec := "fnExactUnriffleBy", apart := false }
def FnExactUnriffleBySaid : Prop := fnExactUnriffleByRow.holds Try.pinned (OpenSpec.ofChange fnExactUnriffleBySpec)

/-- ITS FALSE NEIGHBOUR: 'it returns false'. Refute it at one input. -/
def fnExactUnriffleByWrong : ChangeSpec := { name := "fnExactUnriffleBy", fn := fun _ => fun
  | [d1, d2] => { results := [.lit (.bool false)], args := [d1, d2] }
  | _ => none }
def FnExactUnriffleByWrongFalsely : Prop := fnExactUnriffleByRow.holds Try.pinned (OpenSpec.ofChange fnExactUnriffleByWrong)

/-- 'laws.FnExactOverhandBy': WHATEVER THE INPUT: true; the input reads as it did. -/
def fnExactOverhandBySpec : ChangeSpec := { name := "fnExactOverhandBy", fn := fun _ => fun
  | [d1, d2] => { results := [.lit (.bool true)], args := [d1, d2] }
  | _ => none }
def fnExactOverhandByRow : OpenClaim := { program := "ytfjokclhbbndaaa", sum := "a0a669bf752f23de5a5a3fbb9cf8f80dc1c150c48699e9292768193536811875", func := "loop.example/g01401/laws.FnExactOverhandBy", spec := "fnExactOverhandBy", unfollowed := true, recurses := true, apart := false }
def FnExactOverhandBySaid : Prop := fnExactOverhandByRow.holds Try.pinned (OpenSpec.ofChange fnExactOverhandBySpec)

/-- ITS FALSE NEIGHBOUR: 'it returns false'. Refute it at one input. -/
def fnExactOverhandByWrong : ChangeSpec := { name := "fnExactOverhandBy", fn := fun _ => fun
  | [d1, d2] => { results := [.lit (.bool false)], args := [d1, d2] }
  | _ => none }
def FnExactOverhandByWrongFalsely : Prop := fnExactOverhandByRow.holds Try.pinned (OpenSpec.ofChange fnExactOverhandByWrong)

/-- 'laws.FnExactMongeShuffle': WHATEVER THE INPUT: true; the input reads as it did. -/
def fnExactMongeShuffleSpec : ChangeSpec := { name := "fnExactMongeShuffle", fn := fun _ => fun
  | [d] => { results := [.lit (.bool true)], args := [d] }
  | _ => none }
def fnExactMongeShuffleRow : OpenClaim := { program := "ytfjokclhbbndaaa", sum := "a0a669bf752f23de5a5a3fbb9cf8f80dc1c150c48699e9292768193536811875", func := "loop.example/g01401/laws.FnExactMongeShuffle", spec := "fnExactMongeShuffle", inPlace := ["slices.overlaps[int64]"], apart := false }
def FnExactMongeShuffleSaid : Prop := fnExactMongeShuffleRow.holds Try.pinned (OpenSpec.ofChange fnExactMongeShuffleSpec)

/-- ITS FALSE NEIGHBOUR: 'it returns false'. Refute it at one input. -/
def fnExactMongeShuffleWrong : ChangeSpec := { name := "fnExactMongeShuffle", fn := fun _ => fun
  | [d] => { results := [.lit (.bool false)], args := [d] }
  | _ => none }
def FnExactMongeShuffleWrongFalsely : Prop := fnExactMongeShuffleRow.holds Try.pinned (OpenSpec.ofChange fnExactMongeShuffleWrong)

/-- 'laws.FnExactDrawDeck': WHATEVER THE INPUT: true; the input reads as it did. -/
def fnExactDrawDeckSpec : ChangeSpec := { name := "fnExactDrawDeck", fn := fun _ => fun
  | [d1, d2] => { results := [.lit (.bool true)], args := [d1, d2] }
  | _ => none }
def fnExactDrawDeckRow : OpenClaim := { program := "ytfjokclhbbndaaa", sum := "a0a669bf752f23de5a5a3fbb9cf8f80dc1c150c48699e9292768193536811875", func := "loop.example/g01401/laws.FnExactDrawDeck", spec := "fnExactDrawDeck", unfollowed := true, recurses := true, apart := false }
def FnExactDrawDeckSaid : Prop := fnExactDrawDeckRow.holds Try.pinned (OpenSpec.ofChange fnExactDrawDeckSpec)

/-- ITS FALSE NEIGHBOUR: 'it returns false'. Refute it at one input. -/
def fnExactDrawDeckWrong : ChangeSpec := { name := "fnExactDrawDeck", fn := fun _ => fun
  | [d1, d2] => { results := [.lit (.bool false)], args := [d1, d2] }
  | _ => none }
def FnExactDrawDeckWrongFalsely : Prop := fnExactDrawDeckRow.holds Try.pinned (OpenSpec.ofChange fnExactDrawDeckWrong)

/-- 'laws.FnExactJoinDecks': WHATEVER THE INPUT: true; the input reads as it did. -/
def fnExactJoinDecksSpec : ChangeSpec := { name := "fnExactJoinDecks", fn := fun _ => fun
  | [d1, d2] => { results := [.lit (.bool true)], args := [d1, d2] }
  | _ => none }
def fnExactJoinDecksRow : OpenClaim := { program := "ytfjokclhbbndaaa", sum := "a0a669bf752f23de5a5a3fbb9cf8f80dc1c150c48699e9292768193536811875", func := "loop.example/g01401/laws.FnExactJoinDecks", spec := "fnExactJoinDecks", unfollowed := true, recurses := true, apart := false }
def FnExactJoinDecksSaid : Prop := fnExactJoinDecksRow.holds Try.pinned (OpenSpec.ofChange fnExactJoinDecksSpec)

/-- ITS FALSE NEIGHBOUR: 'it returns false'. Refute it at one input. -/
def fnExactJoinDecksWrong : ChangeSpec := { name := "fnExactJoinDecks", fn := fun _ => fun
  | [d1, d2] => { results := [.lit (.bool false)], args := [d1, d2] }
  | _ => none }
def FnExactJoinDecksWrongFalsely : Prop := fnExactJoinDecksRow.holds Try.pinned (OpenSpec.ofChange fnExactJoinDecksWrong)

/- THE SECOND FORM. 'bulk': how many values and letters a reading holds, each counted each time it is reached (what is shared counts as often as it is met; a slice's spare places count too). A statement '..UptoSaid' is the law's where the arguments, and the package variables that the reading takes, are together of bulk at most 1048576: NARROWER than '..Said'. Prove '..Said' where nothing that the law and all that it calls make is longer than what came in: it says more and counts as full. Else prove '..UptoSaid'. A law counts once. -/
mutual
def uptoBulk {H : Type} : DataW H → Nat
  | .lit (.string bytes) => bytes.length + 1
  | .lit _ => 1
  | .nil => 1
  | .ptr d => uptoBulk d + 1
  | .slice elems spare => uptoBulkAll elems + uptoBulkAll spare + 1
  | .agg parts => uptoBulkAll parts + 1
  | .iface _ d => uptoBulk d + 1
  | .map entries => uptoBulkEntries entries + 1
  | .held _ => 1
def uptoBulkAll {H : Type} : List (DataW H) → Nat
  | [] => 0
  | d :: r => uptoBulk d + uptoBulkAll r
def uptoBulkEntries {H : Type} : List (Lit × DataW H) → Nat
  | [] => 0
  | x :: r => uptoBulkEntry x + uptoBulkEntries r
def uptoBulkEntry {H : Type} : Lit × DataW H → Nat
  | (.string bytes, d) => bytes.length + uptoBulk d + 1
  | (_, d) => uptoBulk d + 1
 end
def uptoSmall : (H : Type) → List (DataW H) → Bool := fun _ ds => decide (uptoBulkAll ds ≤ 1048576)
def OpenSpec.upto (s : _root_.Go.ChangeSpec) : _root_.Go.OpenSpec := { _root_.Go.OpenSpec.ofChange s with cond := some uptoSmall }

/-- 'laws.FnExactIsDeck', WHERE WHAT IT READS IS OF BULK AT MOST 1048576: true; the input reads as it did. -/
def fnExactIsDeckUptoRow : OpenClaim := { program := "ytfjokclhbbndaaa", sum := "a0a669bf752f23de5a5a3fbb9cf8f80dc1c150c48699e9292768193536811875", func := "loop.example/g01401/laws.FnExactIsDeck", spec := "fnExactIsDeck", apart := false, narrowed := true }
def FnExactIsDeckUptoSaid : Prop := fnExactIsDeckUptoRow.holds Try.pinned (OpenSpec.upto fnExactIsDeckSpec)

/-- 'laws.FnExactNewDeck', WHERE WHAT IT READS IS OF BULK AT MOST 1048576: true; the input reads as it did. -/
def fnExactNewDeckUptoRow : OpenClaim := { program := "ytfjokclhbbndaaa", sum := "a0a669bf752f23de5a5a3fbb9cf8f80dc1c150c48699e9292768193536811875", func := "loop.example/g01401/laws.FnExactNewDeck", spec := "fnExactNewDeck", unfollowed := true, recurses := true, apart := false, narrowed := true }
def FnExactNewDeckUptoSaid : Prop := fnExactNewDeckUptoRow.holds Try.pinned (OpenSpec.upto fnExactNewDeckSpec)

/-- 'laws.FnExactTurnDeck', WHERE WHAT IT READS IS OF BULK AT MOST 1048576: true; the input reads as it did. -/
def fnExactTurnDeckUptoRow : OpenClaim := { program := "ytfjokclhbbndaaa", sum := "a0a669bf752f23de5a5a3fbb9cf8f80dc1c150c48699e9292768193536811875", func := "loop.example/g01401/laws.FnExactTurnDeck", spec := "fnExactTurnDeck", unfollowed := true, recurses := true, apart := false, narrowed := true }
def FnExactTurnDeckUptoSaid : Prop := fnExactTurnDeckUptoRow.holds Try.pinned (OpenSpec.upto fnExactTurnDeckSpec)

/-- 'laws.FnExactCutDeck', WHERE WHAT IT READS IS OF BULK AT MOST 1048576: true; the input reads as it did. -/
def fnExactCutDeckUptoRow : OpenClaim := { program := "ytfjokclhbbndaaa", sum := "a0a669bf752f23de5a5a3fbb9cf8f80dc1c150c48699e9292768193536811875", func := "loop.example/g01401/laws.FnExactCutDeck", spec := "fnExactCutDeck", unfollowed := true, recurses := true, apart := false, narrowed := true }
def FnExactCutDeckUptoSaid : Prop := fnExactCutDeckUptoRow.holds Try.pinned (OpenSpec.upto fnExactCutDeckSpec)

/-- 'laws.FnExactPerfectShuffle', WHERE WHAT IT READS IS OF BULK AT MOST 1048576: true; the input reads as it did. -/
def fnExactPerfectShuffleUptoRow : OpenClaim := { program := "ytfjokclhbbndaaa", sum := "a0a669bf752f23de5a5a3fbb9cf8f80dc1c150c48699e9292768193536811875", func := "loop.example/g01401/laws.FnExactPerfectShuffle", spec := "fnExactPerfectShuffle", unfollowed := true, recurses := true, apart := false, narrowed := true }
def FnExactPerfectShuffleUptoSaid : Prop := fnExactPerfectShuffleUptoRow.holds Try.pinned (OpenSpec.upto fnExactPerfectShuffleSpec)

/-- 'laws.FnExactShuffleOrder', WHERE WHAT IT READS IS OF BULK AT MOST 1048576: true; the input reads as it did. -/
def fnExactShuffleOrderUptoRow : OpenClaim := { program := "ytfjokclhbbndaaa", sum := "a0a669bf752f23de5a5a3fbb9cf8f80dc1c150c48699e9292768193536811875", func := "loop.example/g01401/laws.FnExactShuffleOrder", spec := "fnExactShuffleOrder", unfollowed := true, recurses := true, apart := false, narrowed := true }
def FnExactShuffleOrderUptoSaid : Prop := fnExactShuffleOrderUptoRow.holds Try.pinned (OpenSpec.upto fnExactShuffleOrderSpec)

/-- 'laws.FnExactRiffleBy', WHERE WHAT IT READS IS OF BULK AT MOST 1048576: true; the input reads as it did. -/
def fnExactRiffleByUptoRow : OpenClaim := { program := "ytfjokclhbbndaaa", sum := "a0a669bf752f23de5a5a3fbb9cf8f80dc1c150c48699e9292768193536811875", func := "loop.example/g01401/laws.FnExactRiffleBy", spec := "fnExactRiffleBy", unfollowed := true, recurses := true, apart := false, narrowed := true }
def FnExactRiffleByUptoSaid : Prop := fnExactRiffleByUptoRow.holds Try.pinned (OpenSpec.upto fnExactRiffleBySpec)

/-- 'laws.FnExactUnriffleBy', WHERE WHAT IT READS IS OF BULK AT MOST 1048576: true; the input reads as it did. -/
def fnExactUnriffleByUptoRow : OpenClaim := { program := "ytfjokclhbbndaaa", sum := "a0a669bf752f23de5a5a3fbb9cf8f80dc1c150c48699e9292768193536811875", func := "loop.example/g01401/laws.FnExactUnriffleBy", spec := "fnExactUnriffleBy", apart := false, narrowed := true }
def FnExactUnriffleByUptoSaid : Prop := fnExactUnriffleByUptoRow.holds Try.pinned (OpenSpec.upto fnExactUnriffleBySpec)

/-- 'laws.FnExactOverhandBy', WHERE WHAT IT READS IS OF BULK AT MOST 1048576: true; the input reads as it did. -/
def fnExactOverhandByUptoRow : OpenClaim := { program := "ytfjokclhbbndaaa", sum := "a0a669bf752f23de5a5a3fbb9cf8f80dc1c150c48699e9292768193536811875", func := "loop.example/g01401/laws.FnExactOverhandBy", spec := "fnExactOverhandBy", unfollowed := true, recurses := true, apart := false, narrowed := true }
def FnExactOverhandByUptoSaid : Prop := fnExactOverhandByUptoRow.holds Try.pinned (OpenSpec.upto fnExactOverhandBySpec)

/-- 'laws.FnExactMongeShuffle', WHERE WHAT IT READS IS OF BULK AT MOST 1048576: true; the input reads as it did. -/
def fnExactMongeShuffleUptoRow : OpenClaim := { program := "ytfjokclhbbndaaa", sum := "a0a669bf752f23de5a5a3fbb9cf8f80dc1c150c48699e9292768193536811875", func := "loop.example/g01401/laws.FnExactMongeShuffle", spec := "fnExactMongeShuffle", inPlace := ["slices.overlaps[int64]"], apart := false, narrowed := true }
def FnExactMongeShuffleUptoSaid : Prop := fnExactMongeShuffleUptoRow.holds Try.pinned (OpenSpec.upto fnExactMongeShuffleSpec)

/-- 'laws.FnExactDrawDeck', WHERE WHAT IT READS IS OF BULK AT MOST 1048576: true; the input reads as it did. -/
def fnExactDrawDeckUptoRow : OpenClaim := { program := "ytfjokclhbbndaaa", sum := "a0a669bf752f23de5a5a3fbb9cf8f80dc1c150c48699e9292768193536811875", func := "loop.example/g01401/laws.FnExactDrawDeck", spec := "fnExactDrawDeck", unfollowed := true, recurses := true, apart := false, narrowed := true }
def FnExactDrawDeckUptoSaid : Prop := fnExactDrawDeckUptoRow.holds Try.pinned (OpenSpec.upto fnExactDrawDeckSpec)

/-- 'laws.FnExactJoinDecks', WHERE WHAT IT READS IS OF BULK AT MOST 1048576: true; the input reads as it did. -/
def fnExactJoinDecksUptoRow : OpenClaim := { program := "ytfjokclhbbndaaa", sum := "a0a669bf752f23de5a5a3fbb9cf8f80dc1c150c48699e9292768193536811875", func := "loop.example/g01401/laws.FnExactJoinDecks", spec := "fnExactJoinDecks", unfollowed := true, recurses := true, apart := false, narrowed := true }
def FnExactJoinDecksUptoSaid : Prop := fnExactJoinDecksUptoRow.holds Try.pinned (OpenSpec.upto fnExactJoinDecksSpec)

end Rows
end Go.Proofs.Ytfjokclhbbndaaa
