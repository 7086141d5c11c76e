/- The law of counts: the facts of its numbers. -/
import Derived.Test.YtolmhnekfokpdacFnb
import Derived.Test.YtolmhnekfokpdacItH
import Derived.Test.YtolmhnekfokpdacFlb
import Derived.Deep.DeepCutAuto
import Derived.Deep.CutBlock
set_option linter.unusedVariables false
namespace Go.Proofs.Ytolmhnekfokpdac
open Go.RowKit Fl

def tailN : Nat → Code → Code
  | 0, c => c
  | n + 1, .seq _ b => tailN n b
  | _ + 1, c => c
def headN (n : Nat) (c : Code) : Code := match tailN n c with
  | .seq a _ => a
  | c => c
theorem wpList_shrN {P : Program} {w : World} {ops : Array Oper} {rest : List Oper} {o : Oper} {a : Act} {Q : Exit → Act → World → Prop} (hgd : Region.wanted o (yielded ops a.tmps) = true) (T yT : TypeId) (x y : Operand) (ho : o.op = .binOp .shr T x y yT) (a0 : Int) (n : Nat) (hx : a.eval x = .int .i64 a0) (hy : a.eval y = .int .u64 (n : Int)) (hn : n ≤ 62) (q : Int) (hq : a0.fdiv (2 ^ n) = q)
    (h : wpList P ops Q rest (a.put o.dst (.int .i64 q)) w) : wpList P ops Q (o :: rest) a w := by
  refine wpList_wanted hgd fun K hK => ?_
  unfold Oper.wp
  have he : ((eqGuard .shr T x y (.int .i64 a0) (.int .u64 (n : Int))).run P w) = .ok () w := rfl
  have hr : (binOp .shr T (.int .i64 a0) (.int .u64 (n : Int))).run P w = .ok (.int .i64 q) w := by
    subst hq
    show (Op.shift .shr .i64 a0 .u64 (n : Int)).run P w = _
    unfold Op.shift
    rw [if_neg (by omega)]
    have e : min (n : Int).toNat IntKind.i64.bits = n := by rw [Int.toNat_natCast]; exact Nat.min_eq_left (Nat.le_trans hn (by decide))
    simp only [e]
    rfl
  simp [execOp, ho, hx, hy, he, hr, Result.andThen]
  exact hK _ _ h

theorem and1 (q : Nat) (h : q < 4294967296) : bits .and .i64 (q : Int) 1 = ((q % 2 : Nat) : Int) := by
  have := i64_and_nat q 1 (by omega) (by omega)
  rw [Nat.and_two_pow_sub_one_eq_mod q 1] at this
  exact this
def fstC : Code → Code
  | .seq a _ => a
  | c => c
def sndC : Code → Code
  | .seq _ b => b
  | c => c
noncomputable def fnBody : Code := (Try.f6.body).getD .skip
attribute [local go_sem] Oper.semAt_some
theorem cnt_k (n t k : Nat) (hn : n < 9) (ht : t < 5) (ht1 : 1 ≤ t) (hk : k < n) :
    ok_RiffleWays (n : Int) ((k : Int) + 1) (t : Int) = true ∧ (0 ≤ res_RiffleWays (n : Int) ((k : Int) + 1) (t : Int) ∧ res_RiffleWays (n : Int) ((k : Int) + 1) (t : Int) ≤ 1000000000) ∧
    (1 ≤ (res_DescentCounts (n : Int)).getD k 0 ∧ (res_DescentCounts (n : Int)).getD k 0 ≤ 1000000) ∧ (res_DescentCounts (n : Int)).getD k 0 = (res_DescentCounts (n : Int)).getD (n - 1 - k) 0 ∧
    (0 ≤ sD n k ∧ sD n k ≤ 1000000) ∧ (0 ≤ sW n t k ∧ sW n t k ≤ 1000000000000) := by
  have h := cnt_allB n hn t ht ht1 k hk
  unfold cntB at h
  simp only [Bool.and_eq_true, decide_eq_true_eq] at h
  obtain ⟨⟨⟨⟨⟨⟨⟨⟨⟨h1, h2⟩, h3⟩, h4⟩, h5⟩, h6⟩, h7⟩, h8⟩, h9⟩, h10⟩ := h
  exact ⟨h1, ⟨h2, h3⟩, ⟨h4, h5⟩, h6, ⟨h7, h8⟩, h9, h10⟩
theorem mat_k (n k : Nat) (hn : n < 9) (h1 : 1 ≤ n) (hk : k < n + 1) :
    ok_MatchChance (n : Int) (k : Int) = true ∧ (1 ≤ res2_MatchChance (n : Int) (k : Int) ∧ res2_MatchChance (n : Int) (k : Int) ≤ 1000000) ∧ (0 ≤ res_MatchChance (n : Int) (k : Int) ∧ res_MatchChance (n : Int) (k : Int) ≤ 1000000) ∧
    (0 ≤ (res_MatchCounts (n : Int)).getD k 0 ∧ (res_MatchCounts (n : Int)).getD k 0 ≤ 1000000) ∧ res_MatchChance (n : Int) (k : Int) * ((fct n : Nat) : Int) = res2_MatchChance (n : Int) (k : Int) * (res_MatchCounts (n : Int)).getD k 0 ∧ (0 ≤ sM n k ∧ sM n k ≤ 1000000) := by
  have h := mat_allB n hn h1 k hk
  unfold matB at h
  simp only [Bool.and_eq_true, decide_eq_true_eq] at h
  obtain ⟨⟨⟨⟨⟨⟨⟨⟨⟨h1, h2⟩, h3⟩, h4⟩, h5⟩, h6⟩, h7⟩, h8⟩, h9⟩, h10⟩ := h
  exact ⟨h1, ⟨h2, h3⟩, ⟨h4, h5⟩, ⟨h6, h7⟩, h8, h9, h10⟩
def pw2I (m : Nat) : Int := 2 ^ m
theorem cnt_facts (n t : Nat) (hn : n < 9) (h1 : 1 ≤ n) (ht : t < 5) (h2 : 1 ≤ t) :
    ok_DescentCounts (n : Int) = true ∧ ok_MatchCounts (n : Int) = true ∧ ok_FarFromEven (n : Int) (t : Int) = true ∧ (res_DescentCounts (n : Int)).length = n ∧ (res_MatchCounts (n : Int)).length = n + 1 ∧
    1 ≤ res2_FarFromEven (n : Int) (t : Int) ∧ 0 ≤ res_FarFromEven (n : Int) (t : Int) ∧ res_FarFromEven (n : Int) (t : Int) ≤ res2_FarFromEven (n : Int) (t : Int) ∧ (n = 1 → res_FarFromEven (n : Int) (t : Int) = 0) ∧ res2_FarFromEven (n : Int) (t : Int) ≤ 1000000000000000 ∧
    sD n n = (fct n : Int) ∧ sW n t n = pw2I (t * n) ∧ sM n (n + 1) = (fct n : Int) ∧ (res_MatchCounts (n : Int)).getD n 0 = 1 ∧ (1 < n → (res_MatchCounts (n : Int)).getD (n - 1) 0 = 0) := by
  have h := end_allB n hn h1 t ht h2
  unfold endB at h
  simp only [Bool.and_eq_true, decide_eq_true_eq, Bool.or_eq_true, Bool.not_eq_true', decide_eq_false_iff_not] at h
  obtain ⟨⟨⟨⟨⟨⟨⟨⟨⟨⟨⟨⟨⟨⟨a1, a2⟩, a3⟩, a4⟩, a5⟩, a6⟩, a7⟩, a8⟩, a9⟩, a10⟩, a11⟩, a12⟩, a13⟩, a14⟩, a15⟩ := h
  exact ⟨a1, a2, a3, a4, a5, a6, a7, a8, fun e => a9.elim (fun h => absurd e h) id, a10, a11, a12, a13, a14, fun e => a15.elim (fun h => absurd e h) id⟩
theorem fct_bd8 : ∀ n, n < 9 → 1 ≤ ((fct n : Nat) : Int) ∧ ((fct n : Nat) : Int) ≤ 1000000 := by decide +kernel
def fltB (U V P Q : Int) : Bool :=
  match floatBits .mul .f64 (floatOfInt .f64 U) (floatOfInt .f64 Q) with
  | none => false
  | some a => match floatBits .mul .f64 (floatOfInt .f64 P) (floatOfInt .f64 V) with
    | none => false
    | some b => match floatBits .mul .f64 b 4607182869159980145 with
      | none => false
      | some c => match floatBits .add .f64 c 4547007122018943789 with
        | none => false
        | some d => !(FloatKind.f64.format.order a d == some .gt)
theorem flt_all : ∀ n : Nat, n < 9 → 1 ≤ n → ∀ t : Nat, t < 4 → 1 ≤ t → fltB (res_FarFromEven (n : Int) ((t : Int) + 1)) (res2_FarFromEven (n : Int) ((t : Int) + 1)) (res_FarFromEven (n : Int) (t : Int)) (res2_FarFromEven (n : Int) (t : Int)) = true := by decide +kernel
theorem flt_facts {U V P Q : Int} (h : fltB U V P Q = true) : ∃ a b c d, floatBits .mul .f64 (floatOfInt .f64 U) (floatOfInt .f64 Q) = some a ∧ floatBits .mul .f64 (floatOfInt .f64 P) (floatOfInt .f64 V) = some b ∧ floatBits .mul .f64 b 4607182869159980145 = some c ∧ floatBits .add .f64 c 4547007122018943789 = some d ∧ (FloatKind.f64.format.order a d == some .gt) = false := by
  unfold fltB at h
  split at h
  · cases h
  · rename_i a ha
    split at h
    · cases h
    · rename_i b hb
      split at h
      · cases h
      · rename_i c hc
        split at h
        · cases h
        · rename_i d hd
          exact ⟨a, b, c, d, ha, hb, hc, hd, by simpa using h⟩
theorem fopR_eq {op : BinOp} {k : FloatKind} {x y r a : Nat} (h : floatBits op k x y = some a) (g : FopR op k x y r) : r = a := by
  rcases g with g | ⟨g, -, -⟩
  · rw [h] at g; cases g; rfl
  · rw [h] at g; cases g
end Go.Proofs.Ytolmhnekfokpdac
