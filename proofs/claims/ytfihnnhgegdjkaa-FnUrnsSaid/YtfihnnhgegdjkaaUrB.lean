/- The law of urns: sums of fractions. -/
import Derived.Test.YtfihnnhgegdjkaaUrA
import Derived.Test.YtfihnnhgegdjkaaFo
set_option linter.unusedVariables false
namespace Go.Proofs.Ytfihnnhgegdjkaa
open Go.RowKit Fl Ieee

/-- the greater one of two numbers -/
def maxO (x y : Nat) : Option Nat := match FloatKind.f64.format.order x y with
  | none => none
  | some .lt => some y
  | some .gt => some x
  | some .eq => some (if (FloatKind.f64.decode x).neg then y else x)
theorem run_maxO {P : Program} {x y m : Nat} (h : maxO x y = some m) (w : World) (ts : Array TypeId) (t : TypeId) : (Builtin.max_ ts t #[.float .f64 x, .float .f64 y]).run P w = .ok (.float .f64 m) w := by
  unfold maxO at h
  cases e : FloatKind.f64.format.order x y with
  | none => rw [e] at h; cases h
  | some o =>
    rw [e] at h
    cases o <;> (dsimp only at h; cases h; simp [Builtin.max_, Builtin.max2, e])
/-- are two numbers near one another -/
def gapT (a b : Nat) : Bool := match floatBits .sub .f64 a b with
  | some d => (match floatBits .sub .f64 b a with
    | some e => (match maxO d e with
      | some m => !(FloatKind.f64.format.order m 4517329193108106637 == some .gt)
      | none => false)
    | none => false)
  | none => false
theorem gapT_parts {a b : Nat} (h : gapT a b = true) : ∃ d e m, floatBits .sub .f64 a b = some d ∧ floatBits .sub .f64 b a = some e ∧ maxO d e = some m ∧ (FloatKind.f64.format.order m 4517329193108106637 == some .gt) = false := by
  unfold gapT at h
  cases e1 : floatBits .sub .f64 a b with
  | none => rw [e1] at h; cases h
  | some d =>
    rw [e1] at h
    dsimp only at h
    cases e2 : floatBits .sub .f64 b a with
    | none => rw [e2] at h; cases h
    | some e =>
      rw [e2] at h
      dsimp only at h
      cases e3 : maxO d e with
      | none => rw [e3] at h; cases h
      | some m =>
        rw [e3] at h
        dsimp only at h
        exact ⟨d, e, m, rfl, rfl, e3, by simpa using h⟩
theorem gap8_any (a b : Nat) (h : gapT a b = true) : ∃ m, (FloatKind.f64.format.order m 4517329193108106637 == some .gt) = false ∧ ∀ w, Calls Try.prog 12 #[.float .f64 a, .float .f64 b] w fun e w' => e = .returned (.float .f64 m) ∧ w = w' := by
  obtain ⟨d, e, m, h1, h2, h3, h4⟩ := gapT_parts h
  refine ⟨m, h4, fun w => ?_⟩
  have r1 := run_ok (P := Try.prog) h1
  have r2 := run_ok (P := Try.prog) h2
  have r3 := fun z => run_maxO (P := Try.prog) h3 z
  clear h h1 h2 h3 h4
  go_enter Try.func12, Try.ntmps12
  go_wp2
  go_ret
  exact ⟨rfl, rfl⟩
def oneF : Nat := 4607182418800017408
/-- fractions, one after another, make one, nearly -/
def sumB (num den : Nat → Int) : Nat → Nat → Nat → Bool
  | 0, _, acc => gapT acc oneF
  | f + 1, k, acc => decide (1 ≤ den k) && decide (0 ≤ num k) && (match floatBits .quo .f64 (floatOfInt .f64 (num k)) (floatOfInt .f64 (den k)) with
    | some q => (match floatBits .add .f64 acc q with
      | some acc' => sumB num den f (k + 1) acc'
      | none => false)
    | none => false)
theorem sumB_step {num den : Nat → Int} {f k acc : Nat} (h : sumB num den (f + 1) k acc = true) : 1 ≤ den k ∧ 0 ≤ num k ∧ ∃ q acc', floatBits .quo .f64 (floatOfInt .f64 (num k)) (floatOfInt .f64 (den k)) = some q ∧ floatBits .add .f64 acc q = some acc' ∧ sumB num den f (k + 1) acc' = true := by
  unfold sumB at h
  simp only [Bool.and_eq_true, decide_eq_true_eq] at h
  obtain ⟨⟨h1, h2⟩, h3⟩ := h
  refine ⟨h1, h2, ?_⟩
  cases e1 : floatBits .quo .f64 (floatOfInt .f64 (num k)) (floatOfInt .f64 (den k)) with
  | none => rw [e1] at h3; cases h3
  | some q =>
    rw [e1] at h3
    dsimp only at h3
    cases e2 : floatBits .add .f64 acc q with
    | none => rw [e2] at h3; cases h3
    | some acc' => rw [e2] at h3; exact ⟨q, acc', rfl, e2, h3⟩
/-- the mean of how many, nearly -/
def meanB (num den : Nat → Int) (tgt : Nat) : Nat → Nat → Nat → Bool
  | 0, _, acc => gapT acc tgt
  | f + 1, k, acc => (match floatBits .mul .f64 (floatOfInt .f64 (k : Int)) (floatOfInt .f64 (num k)) with
    | some p => (match floatBits .quo .f64 p (floatOfInt .f64 (den k)) with
      | some q => (match floatBits .add .f64 acc q with
        | some acc' => meanB num den tgt f (k + 1) acc'
        | none => false)
      | none => false)
    | none => false)
theorem meanB_step {num den : Nat → Int} {tgt f k acc : Nat} (h : meanB num den tgt (f + 1) k acc = true) : ∃ p q acc', floatBits .mul .f64 (floatOfInt .f64 (k : Int)) (floatOfInt .f64 (num k)) = some p ∧ floatBits .quo .f64 p (floatOfInt .f64 (den k)) = some q ∧ floatBits .add .f64 acc q = some acc' ∧ meanB num den tgt f (k + 1) acc' = true := by
  unfold meanB at h
  cases e1 : floatBits .mul .f64 (floatOfInt .f64 (k : Int)) (floatOfInt .f64 (num k)) with
  | none => rw [e1] at h; cases h
  | some p =>
    rw [e1] at h
    dsimp only at h
    cases e2 : floatBits .quo .f64 p (floatOfInt .f64 (den k)) with
    | none => rw [e2] at h; cases h
    | some q =>
      rw [e2] at h
      dsimp only at h
      cases e3 : floatBits .add .f64 acc q with
      | none => rw [e3] at h; cases h
      | some acc' => rw [e3] at h; exact ⟨p, q, acc', rfl, e2, e3, h⟩
def force (x : Nat) (f : Nat → Bool) : Bool := match x with
  | 0 => f 0
  | n + 1 => f (n + 1)
theorem force_is (x : Nat) (f : Nat → Bool) : force x f = f x := by cases x <;> rfl
def forceO (x : Option Nat) (f : Nat → Bool) : Bool := match x with
  | some y => force y f
  | none => false
theorem forceO_is {x : Option Nat} {f : Nat → Bool} (h : forceO x f = true) : ∃ y, x = some y ∧ f y = true := by
  cases x with
  | none => cases h
  | some y =>
    have h : force y f = true := h
    rw [force_is] at h
    exact ⟨y, rfl, h⟩
def forceI (x : Int) (f : Nat → Bool) : Bool := match x with
  | .ofNat n => force n f
  | .negSucc _ => false
theorem forceI_is {x : Int} {f : Nat → Bool} (h : forceI x f = true) : ∃ n : Nat, x = (n : Int) ∧ f n = true := by
  cases x with
  | ofNat n =>
    have h : force n f = true := h
    rw [force_is] at h
    exact ⟨n, rfl, h⟩
  | negSucc n => cases h
/-- the same as sumB, step by step in literals -/
def sumF (num den : Nat → Int) : Nat → Nat → Nat → Bool
  | 0, _, b => gapT b oneF
  | f + 1, k, b => forceI (num k) fun u => forceI (den k) fun v => decide (1 ≤ v) && force (floatOfInt .f64 (u : Int)) fun U => force (floatOfInt .f64 (v : Int)) fun V =>
      forceO (floatBits .quo .f64 U V) fun q => forceO (floatBits .add .f64 b q) fun b' => sumF num den f (k + 1) b'
theorem sumF_is {num den : Nat → Int} : ∀ {f k b : Nat}, sumF num den f k b = true → sumB num den f k b = true
  | 0, _, _, h => h
  | f + 1, k, b, h => by
    unfold sumF at h
    obtain ⟨u, hu, h⟩ := forceI_is h
    obtain ⟨v, hv, h⟩ := forceI_is h
    obtain ⟨h1, h⟩ := Bool.and_eq_true_iff.1 h
    rw [force_is, force_is] at h
    obtain ⟨q, hq, h⟩ := forceO_is h
    obtain ⟨b', hb, h⟩ := forceO_is h
    have h2 := of_decide_eq_true h1
    unfold sumB
    rw [hu, hv, hq]
    dsimp only
    rw [hb]
    dsimp only
    rw [sumF_is h, decide_eq_true (show (1 : Int) ≤ (v : Int) by omega), decide_eq_true (show (0 : Int) ≤ (u : Int) by omega)]
    rfl
def bothF (num den : Nat → Int) (tgt : Nat) : Nat → Nat → Nat → Nat → Bool
  | 0, _, b, m => gapT b oneF && gapT m tgt
  | f + 1, k, b, m => forceI (num k) fun u => forceI (den k) fun v => decide (1 ≤ v) && force (floatOfInt .f64 (u : Int)) fun U => force (floatOfInt .f64 (v : Int)) fun V =>
      forceO (floatBits .quo .f64 U V) fun q => forceO (floatBits .add .f64 b q) fun b' => forceO (floatBits .mul .f64 (floatOfInt .f64 (k : Int)) U) fun p => forceO (floatBits .quo .f64 p V) fun q2 => forceO (floatBits .add .f64 m q2) fun m' => bothF num den tgt f (k + 1) b' m'
theorem bothF_is {num den : Nat → Int} {tgt : Nat} : ∀ {f k b m : Nat}, bothF num den tgt f k b m = true → sumB num den f k b = true ∧ meanB num den tgt f k m = true
  | 0, _, _, _, h => Bool.and_eq_true_iff.1 h
  | f + 1, k, b, m, h => by
    unfold bothF at h
    obtain ⟨u, hu, h⟩ := forceI_is h
    obtain ⟨v, hv, h⟩ := forceI_is h
    obtain ⟨h1, h⟩ := Bool.and_eq_true_iff.1 h
    rw [force_is, force_is] at h
    obtain ⟨q, hq, h⟩ := forceO_is h
    obtain ⟨b', hb, h⟩ := forceO_is h
    obtain ⟨p, hp, h⟩ := forceO_is h
    obtain ⟨q2, hq2, h⟩ := forceO_is h
    obtain ⟨m', hm, h⟩ := forceO_is h
    obtain ⟨g1, g2⟩ := bothF_is h
    have h2 := of_decide_eq_true h1
    refine ⟨?_, ?_⟩
    · unfold sumB
      rw [hu, hv, hq]
      dsimp only
      rw [hb]
      dsimp only
      rw [g1, decide_eq_true (show (1 : Int) ≤ (v : Int) by omega), decide_eq_true (show (0 : Int) ≤ (u : Int) by omega)]
      rfl
    · unfold meanB
      rw [hu, hv, hp]
      dsimp only
      rw [hq2]
      dsimp only
      rw [hm]
      exact g2
def uN (r b e n k : Nat) : Int := res_UrnGrows (r : Int) (b : Int) (e : Int) (n : Int) (k : Int)
def uD (r b e n k : Nat) : Int := res2_UrnGrows (r : Int) (b : Int) (e : Int) (n : Int) (k : Int)
def cN (r b n k : Nat) : Int := res_UrnChance (r : Int) (b : Int) (n : Int) (k : Int)
def cD (r b n k : Nat) : Int := res2_UrnChance (r : Int) (b : Int) (n : Int) (k : Int)
def tgtF (r b n : Nat) : Nat := fop .quo .f64 (floatOfInt .f64 ((n : Int) * (r : Int))) (floatOfInt .f64 ((r : Int) + (b : Int)))
/-- what the law asks of urns that grow -/
def growsB (r b e n : Nat) : Bool := sumB (uN r b e n) (uD r b e n) (n + 1) 0 0 && meanB (uN r b e n) (uD r b e n) (tgtF r b n) (n + 1) 0 0
def growsF (r b e n : Nat) : Bool := force (tgtF r b n) fun t => bothF (uN r b e n) (uD r b e n) t (n + 1) 0 0 0
theorem growsF_is {r b e n : Nat} (h : growsF r b e n = true) : growsB r b e n = true := by
  unfold growsF at h
  rw [force_is] at h
  obtain ⟨h1, h2⟩ := bothF_is h
  unfold growsB
  rw [h1, h2]; rfl
def chanceF (r b n : Nat) : Bool := (floatBits .quo .f64 (floatOfInt .f64 ((n : Int) * (r : Int))) (floatOfInt .f64 ((r : Int) + (b : Int)))).isSome &&
  (!decide (n ≤ r + b) || (sumF (cN r b n) (cD r b n) (n + 1) 0 0 && (List.range (n + 1)).all fun k => !decide (r < k) || decide (cN r b n k = 0)))
def chanceB (r b n : Nat) : Bool := (floatBits .quo .f64 (floatOfInt .f64 ((n : Int) * (r : Int))) (floatOfInt .f64 ((r : Int) + (b : Int)))).isSome &&
  (!decide (n ≤ r + b) || (sumB (cN r b n) (cD r b n) (n + 1) 0 0 && (List.range (n + 1)).all fun k => !decide (r < k) || decide (cN r b n k = 0)))
theorem chanceF_is {r b n : Nat} (h : chanceF r b n = true) : chanceB r b n = true := by
  unfold chanceF at h
  unfold chanceB
  obtain ⟨h1, h2⟩ := Bool.and_eq_true_iff.1 h
  rw [h1, Bool.true_and]
  rcases Bool.or_eq_true_iff.1 h2 with h3 | h3
  · rw [h3]; rfl
  · obtain ⟨h4, h5⟩ := Bool.and_eq_true_iff.1 h3
    rw [sumF_is h4, h5, Bool.true_and, Bool.or_true]
end Go.Proofs.Ytfihnnhgegdjkaa
