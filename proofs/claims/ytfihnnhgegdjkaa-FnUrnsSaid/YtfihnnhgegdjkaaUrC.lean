/- The law of urns: chances, runs and votes, by the kernel. -/
import Derived.Test.YtfihnnhgegdjkaaUrB
set_option linter.unusedVariables false
namespace Go.Proofs.Ytfihnnhgegdjkaa
open Go.RowKit Fl Ieee

theorem um_tab : ∀ r, r < 11 → ∀ b, b < 12 → res_UrnMean ((r + 1 : Nat) : Int) ((b + 1 : Nat) : Int) * (((r + 1 : Nat) : Int) + 1) = res2_UrnMean ((r + 1 : Nat) : Int) ((b + 1 : Nat) : Int) * (((r + 1 : Nat) : Int) + ((b + 1 : Nat) : Int) + 1) ∧ 0 ≤ res_UrnMean ((r + 1 : Nat) : Int) ((b + 1 : Nat) : Int) ∧ res_UrnMean ((r + 1 : Nat) : Int) ((b + 1 : Nat) : Int) ≤ 1000 ∧ 0 ≤ res2_UrnMean ((r + 1 : Nat) : Int) ((b + 1 : Nat) : Int) ∧ res2_UrnMean ((r + 1 : Nat) : Int) ((b + 1 : Nat) : Int) ≤ 1000 := by decide +kernel
/-- in how many ways ones and zeros are told apart -/
def chN (z : Nat) : Nat → Nat
  | 0 => 1
  | i + 1 => chN z i * (z + (i + 1)) / (i + 1)
def runsB (o z : Nat) : Bool :=
  ((List.range (o + z + 1)).foldl (fun (s : Int) (k : Nat) => s + res_RunWays (o : Int) (z : Int) (k : Int)) 0 == ((chN z o : Nat) : Int)) && ((List.range (o + z + 1)).all fun k => decide (0 ≤ res_RunWays (o : Int) (z : Int) (k : Int)) && decide (res_RunWays (o : Int) (z : Int) (k : Int) ≤ 100000000)) && ((List.range (o + 1)).all fun i => decide (chN z i ≤ 100000000)) &&
  decide (1 ≤ res2_BallotChance (o : Int) (z : Int)) && decide (res2_BallotChance (o : Int) (z : Int) ≤ 1000) && decide (0 ≤ res_BallotChance (o : Int) (z : Int)) && decide (res_BallotChance (o : Int) (z : Int) ≤ 1000) &&
  decide (((ballotN o z : Nat) : Int) * res2_BallotChance (o : Int) (z : Int) = res_BallotChance (o : Int) (z : Int) * ((chN z o : Nat) : Int)) && decide (ballotN o z ≤ ballotN (o + 1) z) && decide (ballotN o z ≤ 100000000)
set_option maxRecDepth 100000 in
set_option maxHeartbeats 40000000 in
theorem rn_tab : ∀ o, o < 12 → ∀ z, z < 12 → runsB o (z + 1) = true := by decide +kernel
end Go.Proofs.Ytfihnnhgegdjkaa
