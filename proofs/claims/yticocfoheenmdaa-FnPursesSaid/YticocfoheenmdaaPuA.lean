/- The law of purses: rows as lists, and what the kernel evaluates of them. -/
import Derived.Test.YticocfoheenmdaaQe
import Derived.Test.YticocfoheenmdaaVf
import Derived.Test.YticocfoheenmdaaFl
set_option linter.unusedVariables false
namespace Go.Proofs.Yticocfoheenmdaa
open Go.RowKit Fl Ieee

/-- the purses between, after one more step -/
def goI (p r : Nat) : Nat → List Nat → List Nat
  | _, [] => []
  | x, y :: l => (p * x + r * l.headD 0) :: goI p r y l
theorem goI_len (p r : Nat) : ∀ (x : Nat) (l : List Nat), (goI p r x l).length = l.length
  | _, [] => rfl
  | x, y :: l => by show (goI p r y l).length + 1 = l.length + 1; rw [goI_len p r y l]
theorem head_get (l : List Nat) : l.headD 0 = l.getD 0 0 := by cases l <;> rfl
theorem goI_at (p r : Nat) : ∀ (x : Nat) (l : List Nat) (j : Nat), j < l.length → (goI p r x l).getD j 0 = p * (if j = 0 then x else l.getD (j - 1) 0) + r * l.getD (j + 1) 0
  | x, y :: l, 0, _ => by
    show p * x + r * l.headD 0 = _
    rw [head_get, if_pos rfl]; rfl
  | x, y :: l, j + 1, h => by
    show (goI p r y l).getD j 0 = _
    rw [goI_at p r y l j (by simpa using h)]
    cases j with
    | zero => rfl
    | succ j => rfl
  | _, [], _, h => absurd h (by simp)
/-- nothing, what lies between, all -/
structure Pu where
  lo : Nat
  mid : List Nat
  hi : Nat
def Pu.next (a p q : Nat) (s : Pu) : Pu := ⟨q * s.lo + (q - p) * s.mid.headD 0, goI p (q - p) 0 s.mid, q * s.hi + p * s.mid.getD (a - 2) 0⟩
def rowP (a u p q : Nat) : Nat → Pu
  | 0 => ⟨if u = 0 then 1 else 0, (List.range (a - 1)).map fun k => if k + 1 = u then 1 else 0, if u = a then 1 else 0⟩
  | t + 1 => Pu.next a p q (rowP a u p q t)
theorem rowP_len (a u p q : Nat) : ∀ t, (rowP a u p q t).mid.length = a - 1
  | 0 => by show ((List.range (a - 1)).map _).length = a - 1; rw [List.length_map, List.length_range]
  | t + 1 => by show (goI p (q - p) 0 (rowP a u p q t).mid).length = a - 1; rw [goI_len, rowP_len a u p q t]
theorem rowP_pu (a u p q : Nat) (ha : 1 ≤ a) (hp : p < q) : ∀ t, (((rowP a u p q t).lo : Nat) : Int) = puF (u : Int) (a : Int) (p : Int) (q : Int) t 0 ∧ (((rowP a u p q t).hi : Nat) : Int) = puF (u : Int) (a : Int) (p : Int) (q : Int) t (a : Int) ∧
    ∀ j, j < a - 1 → (((rowP a u p q t).mid.getD j 0 : Nat) : Int) = puF (u : Int) (a : Int) (p : Int) (q : Int) t ((j : Int) + 1)
  | 0 => by
    refine ⟨?_, ?_, fun j hj => ?_⟩
    · show (((if u = 0 then 1 else 0 : Nat)) : Int) = if (0 : Int) = (u : Int) then 1 else 0
      by_cases e : u = 0
      · rw [if_pos e, if_pos (by omega)]; rfl
      · rw [if_neg e, if_neg (by omega)]; rfl
    · show (((if u = a then 1 else 0 : Nat)) : Int) = if (a : Int) = (u : Int) then 1 else 0
      by_cases e : u = a
      · rw [if_pos e, if_pos (by omega)]; rfl
      · rw [if_neg e, if_neg (by omega)]; rfl
    · show ((((List.range (a - 1)).map fun k => if k + 1 = u then 1 else 0).getD j 0 : Nat) : Int) = if (j : Int) + 1 = (u : Int) then 1 else 0
      rw [List.getD, List.getElem?_map, List.getElem?_range hj, Option.map_some, Option.getD_some]
      by_cases e : j + 1 = u
      · rw [if_pos e, if_pos (by omega)]; rfl
      · rw [if_neg e, if_neg (by omega)]; rfl
  | t + 1 => by
    obtain ⟨h1, h2, h3⟩ := rowP_pu a u p q ha hp t
    have hl := rowP_len a u p q t
    have er : ((q - p : Nat) : Int) = (q : Int) - (p : Int) := by omega
    have beyond : ∀ j, a - 1 ≤ j → (rowP a u p q t).mid.getD j 0 = 0 := fun j hj => by
      rw [List.getD, List.getElem?_eq_none (by omega)]; rfl
    refine ⟨?_, ?_, fun j hj => ?_⟩
    · show ((q * (rowP a u p q t).lo + (q - p) * (rowP a u p q t).mid.headD 0 : Nat) : Int) = _
      unfold puF
      rw [head_get, Int.natCast_add, Int.natCast_mul, Int.natCast_mul, h1, er, if_pos (Or.inl rfl), if_neg (by omega)]
      by_cases e : 0 < a - 1
      · rw [if_pos (by omega), h3 0 e]
        show _ + ((q : Int) - p) * puF u a p q t ((0 : Int) + 1) = _
        omega
      · rw [if_neg (by omega), beyond 0 (by omega)]
        simp
    · show ((q * (rowP a u p q t).hi + p * (rowP a u p q t).mid.getD (a - 2) 0 : Nat) : Int) = _
      unfold puF
      rw [Int.natCast_add, Int.natCast_mul, Int.natCast_mul, h2, if_pos (Or.inr rfl), if_neg (show ¬ (0 < (a : Int) + 1 ∧ (a : Int) + 1 < (a : Int)) by omega)]
      by_cases e : 0 < a - 1
      · rw [if_pos (by omega), h3 (a - 2) (by omega), show ((a - 2 : Nat) : Int) + 1 = (a : Int) - 1 by omega]
        omega
      · rw [if_neg (by omega), beyond (a - 2) (by omega)]
        simp
    · show (((goI p (q - p) 0 (rowP a u p q t).mid).getD j 0 : Nat) : Int) = _
      rw [goI_at p (q - p) 0 _ j (by omega)]
      unfold puF
      rw [Int.natCast_add, Int.natCast_mul, Int.natCast_mul, er, if_neg (show ¬ ((j : Int) + 1 = 0 ∨ (j : Int) + 1 = (a : Int)) by omega)]
      have e1 : (p : Int) * (((if j = 0 then 0 else (rowP a u p q t).mid.getD (j - 1) 0 : Nat)) : Int) = if 0 < (j : Int) + 1 - 1 ∧ (j : Int) + 1 - 1 < (a : Int) then (p : Int) * puF (u : Int) (a : Int) (p : Int) (q : Int) t ((j : Int) + 1 - 1) else 0 := by
        by_cases e : j = 0
        · rw [if_pos e, if_neg (by omega)]; simp
        · rw [if_neg e, if_pos (by omega), h3 (j - 1) (by omega), show ((j - 1 : Nat) : Int) + 1 = (j : Int) + 1 - 1 by omega]
      have e2 : ((q : Int) - (p : Int)) * (((rowP a u p q t).mid.getD (j + 1) 0 : Nat) : Int) = if 0 < (j : Int) + 1 + 1 ∧ (j : Int) + 1 + 1 < (a : Int) then ((q : Int) - (p : Int)) * puF (u : Int) (a : Int) (p : Int) (q : Int) t ((j : Int) + 1 + 1) else 0 := by
        by_cases e : j + 1 < a - 1
        · rw [if_pos (by omega), h3 (j + 1) e, show ((j + 1 : Nat) : Int) + 1 = (j : Int) + 1 + 1 by omega]
        · rw [if_neg (by omega), beyond (j + 1) (by omega)]; simp
      rw [e1, e2, Int.zero_add]
def sumL : List Nat → Nat
  | [] => 0
  | x :: l => x + sumL l
theorem sumI_shift (g : Nat → Int) : ∀ m, sumI g (m + 1) = g 0 + sumI (fun k => g (k + 1)) m
  | 0 => by show (0 : Int) + g 0 = g 0 + 0; omega
  | m + 1 => by
    show sumI g (m + 1) + g (m + 1) = g 0 + (sumI (fun k => g (k + 1)) m + g (m + 1))
    rw [sumI_shift g m]; omega
theorem sumL_I : ∀ (l : List Nat) (g : Nat → Int), (∀ j, j < l.length → ((l.getD j 0 : Nat) : Int) = g j) → ((sumL l : Nat) : Int) = sumI g l.length
  | [], _, _ => rfl
  | x :: l, g, h => by
    show ((x + sumL l : Nat) : Int) = sumI g (l.length + 1)
    rw [sumI_shift, Int.natCast_add, sumL_I l (fun k => g (k + 1)) (fun j hj => h (j + 1) (by simpa using hj)), ← h 0 (by simp)]
    rfl
theorem rowP_sum (a u p q : Nat) (ha : 1 ≤ a) (hp : p < q) (t : Nat) : (((rowP a u p q t).lo + sumL (rowP a u p q t).mid + (rowP a u p q t).hi : Nat) : Int) = sumI (fun k => puF (u : Int) (a : Int) (p : Int) (q : Int) t (k : Int)) (a + 1) := by
  obtain ⟨h1, h2, h3⟩ := rowP_pu a u p q ha hp t
  have hl := rowP_len a u p q t
  obtain ⟨b, rfl⟩ : ∃ b, a = b + 1 := ⟨a - 1, by omega⟩
  have e := sumL_I (rowP (b + 1) u p q t).mid (fun k => puF (u : Int) ((b + 1 : Nat) : Int) (p : Int) (q : Int) t ((k + 1 : Nat) : Int)) (fun j hj => by rw [h3 j (by omega)]; rfl)
  rw [hl, show b + 1 - 1 = b by omega] at e
  show _ = sumI (fun k => puF (u : Int) ((b + 1 : Nat) : Int) (p : Int) (q : Int) t (k : Int)) (b + 1) + puF (u : Int) ((b + 1 : Nat) : Int) (p : Int) (q : Int) t ((b + 1 : Nat) : Int)
  rw [sumI_shift, Int.natCast_add, Int.natCast_add, h1, h2, e]
  rfl
/-- is one number greater than another one -/
def gtP (r s : Nat) : Bool := FloatKind.f64.format.order r s == some .gt
def quoB (x y : Int) (s : Nat) : Bool := match floatBits .quo .f64 (floatOfInt .f64 x) (floatOfInt .f64 y) with
  | some r => !gtP r s
  | none => false
/-- what the law asks of one row -/
def chkQ (s : Nat) (l : Pu) (below : Nat) : Bool := (l.lo + sumL l.mid + l.hi == below) && decide (below ≤ 10000000000) && quoB ((l.hi : Nat) : Int) (below : Int) s
def chkT (a p q s : Nat) : Nat → Pu → Nat → Bool
  | 0, _, _ => true
  | n + 1, l, below => chkQ s l below && chkT a p q s n (l.next a p q) (below * q)
def pwN (q : Nat) : Nat → Nat
  | 0 => 1
  | t + 1 => pwN q t * q
theorem pwN_I (q : Nat) : ∀ t, ((pwN q t : Nat) : Int) = pwI (q : Int) t
  | 0 => rfl
  | t + 1 => by show ((pwN q t * q : Nat) : Int) = pwI (q : Int) t * (q : Int); rw [Int.natCast_mul, pwN_I q t]
theorem chkT_at (a u p q s : Nat) : ∀ n i t, chkT a p q s n (rowP a u p q i) (pwN q i) = true → t < n → chkQ s (rowP a u p q (i + t)) (pwN q (i + t)) = true
  | n + 1, i, 0, h, _ => by
    unfold chkT at h
    exact (Bool.and_eq_true_iff.1 h).1
  | n + 1, i, t + 1, h, ht => by
    unfold chkT at h
    have := chkT_at a u p q s n (i + 1) t (Bool.and_eq_true_iff.1 h).2 (by omega)
    rw [show i + 1 + t = i + (t + 1) by omega] at this
    exact this
  | 0, _, _, _, h => absurd h (by omega)
/-- the chance to reach the aim, and what the law allows -/
def ruA (a u p q : Nat) : Int := res_RuinChance (u : Int) (a : Int) (p : Int) (q : Int)
def ruB (a u p q : Nat) : Int := res2_RuinChance (u : Int) (a : Int) (p : Int) (q : Int)
def ruS (a u p q : Nat) : Nat := fop .add .f64 (fop .quo .f64 (floatOfInt .f64 (ruA a u p q)) (floatOfInt .f64 (ruB a u p q))) 4517329193108106637
def ruK (a u p q : Nat) : Bool :=
  decide (1 ≤ ruB a u p q) && decide (ruB a u p q ≤ 100000000000) && decide (0 ≤ ruA a u p q) && decide (ruA a u p q ≤ ruB a u p q) &&
  decide (ruB a (a - u) (q - p) q = ruB a u p q) && decide (ruA a u p q + ruA a (a - u) (q - p) q = ruB a u p q) && (decide (2 * p ≠ q) || decide (ruA a u p q * (a : Int) = ruB a u p q * (u : Int))) &&
  (floatBits .quo .f64 (floatOfInt .f64 (ruA a u p q)) (floatOfInt .f64 (ruB a u p q))).isSome && (floatBits .add .f64 (fop .quo .f64 (floatOfInt .f64 (ruA a u p q)) (floatOfInt .f64 (ruB a u p q))) 4517329193108106637).isSome
def tabB (a u p q : Nat) : Bool := ruK a u p q && chkT a p q (ruS a u p q) 10 (rowP a u p q 0) 1
end Go.Proofs.Yticocfoheenmdaa
