/- What the law of counts asks of the numbers, by kernel. -/
import Derived.Test.YtolmhnekfokpdacCk
import Derived.Test.YtolmhnekfokpdacLo
import Derived.WalkKit
import Derived.ProofKit
import Derived.Lib.Hide
import Derived.Test.YtolmhnekfokpdacFb
import Derived.Test.YtolmhnekfokpdacEh
import Derived.Test.YtolmhnekfokpdacQi
import Derived.Test.YtolmhnekfokpdacRd
import Derived.Test.YtolmhnekfokpdacGd
import Derived.Test.YtolmhnekfokpdacDn
import Derived.Test.YtolmhnekfokpdacItG
set_option linter.unusedVariables false
namespace Go.Proofs.Ytolmhnekfokpdac
open Go.RowKit
attribute [local go_sem] Oper.semAt_some

/-- bytes -/
def BsB (bs : List Int) : Prop := ∀ x ∈ bs, 0 ≤ x ∧ x ≤ 255
theorem BsB.at {bs : List Int} (h : BsB bs) (k : Nat) (hk : k < bs.length) : 0 ≤ bs.getD k 0 ∧ bs.getD k 0 ≤ 255 := by
  have : bs.getD k 0 = bs[k] := by simp [List.getD, hk]
  rw [this]
  exact h _ (List.getElem_mem hk)
/-- the number that the byte at k chooses -/
def r8V (bs : List Int) (k n : Nat) : Nat := if n ≤ 1 ∨ bs.length ≤ k then 0 else (bs.getD k 0).toNat % n
theorem r8V_lt (bs : List Int) (k n : Nat) (h : 1 ≤ n) : r8V bs k n < n := by
  unfold r8V
  split
  · omega
  · exact Nat.mod_lt _ (by omega)

set_option maxHeartbeats 1000000 in
theorem long_any (fs gs : List Int) (v v2 : Value) (w : World) (hn : fs.length ≤ maxLen) (hn2 : gs.length ≤ maxLen) (h : Sl (Value.int .u8) 0 w v fs) (h2 : Sl (Value.int .u8) 0 w v2 gs) :
    Calls Try.prog 22 #[v, v2] w fun e w' => e = .returned (.bool (decide (48 < fs.length) || decide (48 < gs.length))) ∧ w = w' := by
  obtain ⟨p, cap, rfl, -⟩ := h
  obtain ⟨p2, cap2, rfl, -⟩ := h2
  unfold maxLen at hn hn2
  generalize fs.length = n at *
  generalize gs.length = m at *
  by_cases h1 : 48 < n
  · have d1 : decide ((48 : Int) < (n : Int)) = true := decide_eq_true (by omega)
    go_enter Try.func22, Try.ntmps22
    go_wp2
    go_ret
    exact ⟨ret_bool (by simp [h1]), rfl⟩
  · have d1 : decide ((48 : Int) < (n : Int)) = false := decide_eq_false (by omega)
    by_cases h2 : 48 < m
    · have d2 : decide ((48 : Int) < (m : Int)) = true := decide_eq_true (by omega)
      go_enter Try.func22, Try.ntmps22
      go_wp2
      go_ret
      exact ⟨ret_bool (by simp [h1, h2]), rfl⟩
    · have d2 : decide ((48 : Int) < (m : Int)) = false := decide_eq_false (by omega)
      go_enter Try.func22, Try.ntmps22
      go_wp2
      go_ret
      exact ⟨ret_bool (by simp [h1, h2]), rfl⟩

set_option maxHeartbeats 1000000 in
theorem at_any (gs : List Int) (v : Value) (k n : Nat) (w : World) (hn : 1 ≤ n) (hn2 : n ≤ 1000000) (hk : k ≤ 1000) (hl : gs.length ≤ maxLen) (hb : BsB gs) (h : Sl (Value.int .u8) 0 w v gs) :
    Calls Try.prog 23 #[v, .int .i64 (k : Int), .int .i64 (n : Int)] w fun e w' => e = .returned (.int .i64 ((r8V gs k n : Nat) : Int)) ∧ w = w' := by
  obtain ⟨p, cap, rfl, hc⟩ := h
  unfold maxLen at hl
  unfold r8V
  by_cases h1 : n ≤ 1 ∨ gs.length ≤ k
  · rw [if_pos h1]
    clear hc hb
    generalize gs.length = m at *
    by_cases h2 : n ≤ 1
    · have d1 : decide ((n : Int) ≤ 1) = true := decide_eq_true (by omega)
      go_enter Try.func23, Try.ntmps23
      go_wp2
      go_ret
      exact ⟨rfl, rfl⟩
    · have d1 : decide ((n : Int) ≤ 1) = false := decide_eq_false (by omega)
      have d2 : decide ((m : Int) ≤ (k : Int)) = true := decide_eq_true (by omega)
      go_enter Try.func23, Try.ntmps23
      go_wp2
      go_ret
      exact ⟨rfl, rfl⟩
  · rw [if_neg h1]
    obtain ⟨hcap, b, off, rfl, hb', hcs⟩ := hc (by omega)
    have c1 := hcs k (by omega)
    have hx := hb.at k (by omega)
    clear hc hcs hb
    generalize gs.getD k 0 = x at *
    obtain ⟨y, rfl⟩ : ∃ y : Nat, x = (y : Int) := ⟨x.toNat, by omega⟩
    generalize gs.length = m at *
    have d1 : decide ((n : Int) ≤ 1) = false := decide_eq_false (by omega)
    have d2 : decide ((m : Int) ≤ (k : Int)) = false := decide_eq_false (by omega)
    have dz : ((n : Int) = 0) = False := eq_false (by omega)
    go_enter Try.func23, Try.ntmps23
    go_wp2
    go_ret
    exact ⟨by simp, rfl⟩

/-- sums of the first counts, of the ways, of the matches -/
def sD (n : Nat) : Nat → Int
  | 0 => 0
  | k + 1 => sD n k + (res_DescentCounts (n : Int)).getD k 0
def sW (n t : Nat) : Nat → Int
  | 0 => 0
  | k + 1 => sW n t k + (res_DescentCounts (n : Int)).getD k 0 * res_RiffleWays (n : Int) ((k : Int) + 1) (t : Int)
def sM (n : Nat) : Nat → Int
  | 0 => 0
  | k + 1 => sM n k + (res_MatchCounts (n : Int)).getD k 0
def cntB (n t k : Nat) : Bool :=
  ok_RiffleWays (n : Int) ((k : Int) + 1) (t : Int) && decide (0 ≤ res_RiffleWays (n : Int) ((k : Int) + 1) (t : Int)) && decide (res_RiffleWays (n : Int) ((k : Int) + 1) (t : Int) ≤ 1000000000) &&
  decide (1 ≤ (res_DescentCounts (n : Int)).getD k 0) && decide ((res_DescentCounts (n : Int)).getD k 0 ≤ 1000000) && decide ((res_DescentCounts (n : Int)).getD k 0 = (res_DescentCounts (n : Int)).getD (n - 1 - k) 0) &&
  decide (0 ≤ sD n k) && decide (sD n k ≤ 1000000) && decide (0 ≤ sW n t k) && decide (sW n t k ≤ 1000000000000)
theorem cnt_allB : ∀ n, n < 9 → ∀ t, t < 5 → 1 ≤ t → ∀ k, k < n → cntB n t k = true := by decide +kernel
def matB (n k : Nat) : Bool :=
  ok_MatchChance (n : Int) (k : Int) && decide (1 ≤ res2_MatchChance (n : Int) (k : Int)) && decide (res2_MatchChance (n : Int) (k : Int) ≤ 1000000) && decide (0 ≤ res_MatchChance (n : Int) (k : Int)) && decide (res_MatchChance (n : Int) (k : Int) ≤ 1000000) &&
  decide (0 ≤ (res_MatchCounts (n : Int)).getD k 0) && decide ((res_MatchCounts (n : Int)).getD k 0 ≤ 1000000) && decide (res_MatchChance (n : Int) (k : Int) * (fct n : Int) = res2_MatchChance (n : Int) (k : Int) * (res_MatchCounts (n : Int)).getD k 0) &&
  decide (0 ≤ sM n k) && decide (sM n k ≤ 1000000)
instance (a b : Int) : Decidable (okMC a b) := by unfold okMC; infer_instance
theorem mat_allB : ∀ n, n < 9 → 1 ≤ n → ∀ k, k < n + 1 → matB n k = true := by decide +kernel
def endB (n t : Nat) : Bool :=
  ok_DescentCounts (n : Int) && ok_MatchCounts (n : Int) && ok_FarFromEven (n : Int) (t : Int) && decide ((res_DescentCounts (n : Int)).length = n) && decide ((res_MatchCounts (n : Int)).length = n + 1) &&
  decide (1 ≤ res2_FarFromEven (n : Int) (t : Int)) && decide (0 ≤ res_FarFromEven (n : Int) (t : Int)) && decide (res_FarFromEven (n : Int) (t : Int) ≤ res2_FarFromEven (n : Int) (t : Int)) && (!decide (n = 1) || decide (res_FarFromEven (n : Int) (t : Int) = 0)) && decide (res2_FarFromEven (n : Int) (t : Int) ≤ 1000000000000000) &&
  decide (sD n n = (fct n : Int)) && decide (sW n t n = 2 ^ (t * n)) && decide (sM n (n + 1) = (fct n : Int)) && decide ((res_MatchCounts (n : Int)).getD n 0 = 1) && (!decide (1 < n) || decide ((res_MatchCounts (n : Int)).getD (n - 1) 0 = 0))
theorem end_allB : ∀ n, n < 9 → 1 ≤ n → ∀ t, t < 5 → 1 ≤ t → endB n t = true := by decide +kernel
theorem pow_all : ∀ t, t < 5 → ∀ k, k < 8 → IntKind.i64.wrap ((2 : Int) ^ (t * k) * 2 ^ t) = 2 ^ (t * (k + 1)) := by decide +kernel

/-- the rings -/
def ringL : Nat → List Int
  | 1 => [0, 1]
  | 2 => [0, 0, 1, 1]
  | 3 => [0, 0, 0, 1, 0, 1, 1, 1]
  | 4 => [0, 0, 0, 0, 1, 0, 0, 1, 1, 0, 1, 0, 1, 1, 1, 1]
  | 5 => [0, 0, 0, 0, 0, 1, 0, 0, 0, 1, 1, 0, 0, 1, 0, 1, 0, 0, 1, 1, 1, 0, 1, 0, 1, 1, 0, 1, 1, 1, 1, 1]
  | 6 => [0, 0, 0, 0, 0, 0, 1, 0, 0, 0, 0, 1, 1, 0, 0, 0, 1, 0, 1, 0, 0, 0, 1, 1, 1, 0, 0, 1, 0, 0, 1, 0, 1, 1, 0, 0, 1, 1, 0, 1, 0, 0, 1, 1, 1, 1, 0, 1, 0, 1, 0, 1, 1, 1, 0, 1, 1, 0, 1, 1, 1, 1, 1, 1]
  | _ => []
theorem ring_lit : ∀ n : Nat, n < 7 → 1 ≤ n → res_BitRing (n : Int) = ringL n ∧ (ringL n).length = 2 ^ n := by decide +kernel
def wordG (m x j : Nat) : Int := ((x / 2 ^ (m - 1 - j) % 2 : Nat) : Int)
def wrdB (m x : Nat) : Bool :=
  ok_WordAt (ringL m) (tab m (wordG m x)) && decide (0 ≤ res_WordAt (ringL m) (tab m (wordG m x))) && decide (res_WordAt (ringL m) (tab m (wordG m x)) < 2 ^ m) &&
  ((List.range m).all fun k => decide ((ringL m).getD (((res_WordAt (ringL m) (tab m (wordG m x))).toNat + k) % 2 ^ m) 0 = wordG m x k))
theorem wrd_allB : ∀ m, m < 7 → 1 ≤ m → ∀ x, x < 2 ^ m → wrdB m x = true := by decide +kernel
theorem zero_all : ∀ m, m < 7 → 1 ≤ m → ok_WordAt (ringL m) (List.replicate m 0) = true ∧ res_WordAt (ringL m) (List.replicate m 0) = 0 := by decide +kernel
/-- cut decks are paired -/
def cutB (k m c : Nat) : Bool :=
  ok_NewDeck ((k * m : Nat) : Int) && decide ((res_NewDeck ((k * m : Nat) : Int)).length = k * m) && ok_CutDeck (res_NewDeck ((k * m : Nat) : Int)) (c : Int) && decide ((res_CutDeck (res_NewDeck ((k * m : Nat) : Int)) (c : Int)).length = k * m) &&
  ok_IsPaired (res_CutDeck (res_NewDeck ((k * m : Nat) : Int)) (c : Int)) (k : Int) && res_IsPaired (res_CutDeck (res_NewDeck ((k * m : Nat) : Int)) (c : Int)) (k : Int)
theorem cut_allB : ∀ k, k < 5 → 1 ≤ k → ∀ m, m < 6 → 1 ≤ m → ∀ c, c < k * m + 1 → cutB k m c = true := by decide +kernel
end Go.Proofs.Ytolmhnekfokpdac
