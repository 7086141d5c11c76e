/- Cycles: by marks and by least places. No translation. -/
import Derived.Test.YtfjokclhbbndaabDp
set_option linter.unusedVariables false
namespace Go.Proofs.Ytfjokclhbbndaab

def itF (f : Nat → Nat) (i : Nat) : Nat → Nat
  | 0 => i
  | k + 1 => f (itF f i k)
theorem itF_add (f : Nat → Nat) (i a : Nat) : ∀ b, itF f i (a + b) = itF f (itF f i a) b
  | 0 => rfl
  | b + 1 => congrArg f (itF_add f i a b)
theorem itF_lt {f : Nat → Nat} {n : Nat} (hr : ∀ x, x < n → f x < n) {i : Nat} (hi : i < n) : ∀ k, itF f i k < n
  | 0 => hi
  | k + 1 => hr _ (itF_lt hr hi k)
theorem itF_cancel {f : Nat → Nat} {n : Nat} (hr : ∀ x, x < n → f x < n) (hj : ∀ x y, x < n → y < n → f x = f y → x = y) {x y : Nat} (hx : x < n) (hy : y < n) : ∀ k, itF f x k = itF f y k → x = y
  | 0, h => h
  | k + 1, h => itF_cancel hr hj hx hy k (hj _ _ (itF_lt hr hx k) (itF_lt hr hy k) h)
theorem holes : ∀ (n : Nat) (g : Nat → Nat), (∀ k, k ≤ n → g k < n) → ∃ a b, a < b ∧ b ≤ n ∧ g a = g b
  | 0, g, h => absurd (h 0 (Nat.le_refl _)) (by omega)
  | n + 1, g, h => by
    by_cases he : ∃ a, a ≤ n ∧ g a = g (n + 1)
    · obtain ⟨a, ha, e⟩ := he
      exact ⟨a, n + 1, by omega, Nat.le_refl _, e⟩
    · have hne : ∀ a, a ≤ n → g a ≠ g (n + 1) := fun a ha e => he ⟨a, ha, e⟩
      obtain ⟨a, b, hab, hb, e⟩ := holes n (fun k => if g (n + 1) < g k then g k - 1 else g k) (fun k hk => by
        have h1 := h k (by omega)
        have h2 := h (n + 1) (Nat.le_refl _)
        have h3 := hne k hk
        split <;> omega)
      refine ⟨a, b, hab, by omega, ?_⟩
      have h1 := hne a (by omega)
      have h2 := hne b hb
      split at e <;> split at e <;> omega
theorem back_some {f : Nat → Nat} {n : Nat} (hr : ∀ x, x < n → f x < n) (hj : ∀ x y, x < n → y < n → f x = f y → x = y) {i : Nat} (hi : i < n) : ∃ p, 1 ≤ p ∧ p ≤ n ∧ itF f i p = i := by
  obtain ⟨a, b, hab, hb, e⟩ := holes n (itF f i) (fun k _ => itF_lt hr hi k)
  refine ⟨b - a, by omega, by omega, ?_⟩
  have e2 : itF f (itF f i (b - a)) a = itF f i a := by rw [← itF_add, show b - a + a = b by omega]; exact e.symm
  exact itF_cancel hr hj (itF_lt hr hi _) hi a e2

def perF (n : Nat) (f : Nat → Nat) (i : Nat) : Nat := ((List.range n).find? (fun k => itF f i (k + 1) == i)).getD 0 + 1
theorem per_spec {f : Nat → Nat} {n : Nat} (hr : ∀ x, x < n → f x < n) (hj : ∀ x y, x < n → y < n → f x = f y → x = y) {i : Nat} (hi : i < n) :
    1 ≤ perF n f i ∧ perF n f i ≤ n ∧ itF f i (perF n f i) = i ∧ ∀ q, 1 ≤ q → q < perF n f i → itF f i q ≠ i := by
  obtain ⟨p, p1, p2, pe⟩ := back_some hr hj hi
  cases hf : (List.range n).find? (fun k => itF f i (k + 1) == i) with
  | none =>
    rw [List.find?_eq_none] at hf
    exact absurd (by simpa [show p - 1 + 1 = p by omega] using pe) (hf (p - 1) (List.mem_range.2 (by omega)))
  | some k =>
    have e : perF n f i = k + 1 := by unfold perF; rw [hf]; rfl
    rw [List.find?_range_eq_some] at hf
    obtain ⟨h1, h2, h3⟩ := hf
    rw [e]
    refine ⟨by omega, by have := List.mem_range.1 h2; omega, by simpa using h1, fun q q1 q2 => ?_⟩
    have := h3 (q - 1) (by omega)
    rw [show q - 1 + 1 = q by omega] at this
    simpa using this
theorem itF_mul {f : Nat → Nat} {i p : Nat} (h : itF f i p = i) : ∀ m, itF f i (p * m) = i
  | 0 => rfl
  | m + 1 => by rw [Nat.mul_succ, itF_add, itF_mul h m, h]
theorem it_small {f : Nat → Nat} {i p : Nat} (p1 : 1 ≤ p) (h : itF f i p = i) : ∀ k, ∃ j, j < p ∧ itF f i k = itF f i j
  | 0 => ⟨0, p1, rfl⟩
  | k + 1 => by
    obtain ⟨j, hj, e⟩ := it_small p1 h k
    by_cases h1 : j + 1 < p
    · exact ⟨j + 1, h1, congrArg f e⟩
    · obtain rfl : p = j + 1 := by omega
      exact ⟨0, p1, (congrArg f e).trans h⟩

def leastB (n : Nat) (f : Nat → Nat) (i : Nat) : Bool := (List.range n).all (fun k => decide (i ≤ itF f i k))
theorem least_no {n : Nat} {f : Nat → Nat} {i k : Nat} (hk : k < n) (h : itF f i k < i) : leastB n f i = false := by
  rw [Bool.eq_false_iff]
  intro h'
  unfold leastB at h'
  rw [List.all_eq_true] at h'
  have := h' k (List.mem_range.2 hk)
  rw [decide_eq_true_eq] at this
  omega
theorem least_yes {n : Nat} {f : Nat → Nat} {i p : Nat} (p1 : 1 ≤ p) (hp : itF f i p = i) (h : ∀ j, j < p → i ≤ itF f i j) : leastB n f i = true := by
  unfold leastB
  rw [List.all_eq_true]
  intro k _
  obtain ⟨j, hj, e⟩ := it_small p1 hp k
  rw [decide_eq_true_eq, e]
  exact h j hj
theorem least_iff {n : Nat} {f : Nat → Nat} {i p : Nat} (p1 : 1 ≤ p) (pn : p ≤ n) (hp : itF f i p = i) : leastB n f i = true ↔ ∀ k, i ≤ itF f i k := by
  constructor
  · intro h k
    obtain ⟨j, hj, e⟩ := it_small p1 hp k
    unfold leastB at h
    rw [List.all_eq_true] at h
    have := h j (List.mem_range.2 (by omega))
    rw [decide_eq_true_eq] at this
    rw [e]; exact this
  · intro h
    exact least_yes p1 hp (fun j _ => h j)

/-- x lies in j's cycle -/
def inB (n : Nat) (f : Nat → Nat) (j x : Nat) : Bool := (List.range n).any (fun s => itF f j s == x)
theorem in_iff {n : Nat} {f : Nat → Nat} {j p : Nat} (p1 : 1 ≤ p) (pn : p ≤ n) (hp : itF f j p = j) (x : Nat) : inB n f j x = true ↔ ∃ s, itF f j s = x := by
  unfold inB
  rw [List.any_eq_true]
  constructor
  · rintro ⟨s, _, h⟩
    exact ⟨s, by simpa using h⟩
  · rintro ⟨s, h⟩
    obtain ⟨t, ht, e⟩ := it_small p1 hp s
    exact ⟨t, List.mem_range.2 (by omega), by rw [beq_iff_eq, ← e]; exact h⟩
theorem orb_back {f : Nat → Nat} {j p s x : Nat} (p1 : 1 ≤ p) (hp : itF f j p = j) (h : itF f j s = x) : ∃ t, itF f x t = j := by
  refine ⟨p * s - s, ?_⟩
  have hs : s ≤ p * s := Nat.le_mul_of_pos_left s p1
  rw [← h, ← itF_add, show s + (p * s - s) = p * s by omega]
  exact itF_mul hp s

def seenB (n : Nat) (f : Nat → Nat) (i x : Nat) : Bool := (List.range i).any (fun j => inB n f j x)
theorem seen_zero (n : Nat) (f : Nat → Nat) (x : Nat) : seenB n f 0 x = false := rfl
theorem seen_succ (n : Nat) (f : Nat → Nat) (i x : Nat) : seenB n f (i + 1) x = (seenB n f i x || inB n f i x) := by
  unfold seenB
  rw [List.range_succ, List.any_append]
  simp
section
variable {f : Nat → Nat} {n : Nat} (hr : ∀ x, x < n → f x < n) (hj : ∀ x y, x < n → y < n → f x = f y → x = y)
include hr hj
theorem seen_iff {i : Nat} (hi : i ≤ n) (x : Nat) : seenB n f i x = true ↔ ∃ j, j < i ∧ ∃ s, itF f j s = x := by
  unfold seenB
  rw [List.any_eq_true]
  constructor
  · rintro ⟨j, h1, h2⟩
    have h1' := List.mem_range.1 h1
    obtain ⟨p1, pn, hp, _⟩ := per_spec hr hj (show j < n by omega)
    exact ⟨j, h1', (in_iff p1 pn hp x).1 h2⟩
  · rintro ⟨j, h1, h2⟩
    obtain ⟨p1, pn, hp, _⟩ := per_spec hr hj (show j < n by omega)
    exact ⟨j, List.mem_range.2 h1, (in_iff p1 pn hp x).2 h2⟩
theorem seen_self {i : Nat} (hi : i < n) : seenB n f i i = !leastB n f i := by
  obtain ⟨p1, pn, hp, _⟩ := per_spec hr hj hi
  have h1 := seen_iff hr hj (Nat.le_of_lt hi) i
  have h2 := least_iff p1 pn hp
  cases hl : leastB n f i
  · rw [Bool.not_false, h1]
    have : ¬ ∀ k, i ≤ itF f i k := fun h => by rw [h2.2 h] at hl; exact Bool.noConfusion hl
    obtain ⟨k, hk⟩ := Classical.not_forall.1 this
    obtain ⟨t, ht⟩ := orb_back p1 hp (rfl : itF f i k = itF f i k)
    exact ⟨itF f i k, by omega, t, ht⟩
  · rw [Bool.not_true, Bool.eq_false_iff]
    intro h
    obtain ⟨j, hji, s, hs⟩ := h1.1 h
    obtain ⟨q1, _, hq, _⟩ := per_spec hr hj (show j < n by omega)
    obtain ⟨t, ht⟩ := orb_back q1 hq hs
    have := h2.1 hl t
    omega
theorem seen_orb {i : Nat} (hi : i < n) (hl : leastB n f i = true) (t : Nat) : seenB n f i (itF f i t) = false := by
  rw [Bool.eq_false_iff]
  intro h
  obtain ⟨j, hji, s, hs⟩ := (seen_iff hr hj (Nat.le_of_lt hi) _).1 h
  obtain ⟨p1, pn, hp, _⟩ := per_spec hr hj hi
  obtain ⟨u, hu⟩ := orb_back p1 hp (rfl : itF f i t = itF f i t)
  have hh : seenB n f i i = true := (seen_iff hr hj (Nat.le_of_lt hi) i).2 ⟨j, hji, s + u, by rw [itF_add, hs, hu]⟩
  rw [seen_self hr hj hi, hl] at hh
  exact Bool.noConfusion hh
theorem seen_same {i : Nat} (hi : i < n) (hl : leastB n f i = false) (x : Nat) : seenB n f (i + 1) x = seenB n f i x := by
  rw [seen_succ]
  cases h : inB n f i x
  · rw [Bool.or_false]
  · rw [Bool.or_true]
    obtain ⟨p1, pn, hp, _⟩ := per_spec hr hj hi
    obtain ⟨s, hs⟩ := (in_iff p1 pn hp x).1 h
    have hh : seenB n f i i = true := by rw [seen_self hr hj hi, hl]; rfl
    obtain ⟨j, hji, t, ht⟩ := (seen_iff hr hj (Nat.le_of_lt hi) i).1 hh
    exact ((seen_iff hr hj (Nat.le_of_lt hi) x).2 ⟨j, hji, t + s, by rw [itF_add, ht, hs]⟩).symm
end
/-- marks: all of the cycles before i, and t places of i's -/
def markB (n : Nat) (f : Nat → Nat) (i t x : Nat) : Bool := seenB n f i x || (List.range t).any (fun s => itF f i s == x)
theorem mark_zero (n : Nat) (f : Nat → Nat) (i x : Nat) : markB n f i 0 x = seenB n f i x := Bool.or_false _
theorem mark_succ (n : Nat) (f : Nat → Nat) (i t x : Nat) : markB n f i (t + 1) x = (markB n f i t x || (itF f i t == x)) := by
  unfold markB
  rw [List.range_succ, List.any_append, Bool.or_assoc]
  simp
section
variable {f : Nat → Nat} {n : Nat} (hr : ∀ x, x < n → f x < n) (hj : ∀ x y, x < n → y < n → f x = f y → x = y)
include hr hj
theorem mark_end {i : Nat} (hi : i < n) (x : Nat) : markB n f i (perF n f i) x = seenB n f (i + 1) x := by
  obtain ⟨p1, pn, hp, _⟩ := per_spec hr hj hi
  rw [seen_succ]
  unfold markB
  congr 1
  rw [Bool.eq_iff_iff, in_iff p1 pn hp, List.any_eq_true]
  constructor
  · rintro ⟨s, _, h⟩; exact ⟨s, by simpa using h⟩
  · rintro ⟨s, h⟩
    obtain ⟨t, ht, e⟩ := it_small p1 hp s
    exact ⟨t, List.mem_range.2 ht, by rw [beq_iff_eq, ← e]; exact h⟩
theorem mark_open {i t : Nat} (hi : i < n) (hl : leastB n f i = true) (ht : t < perF n f i) : markB n f i t (itF f i t) = false := by
  obtain ⟨p1, pn, hp, hq⟩ := per_spec hr hj hi
  unfold markB
  rw [seen_orb hr hj hi hl, Bool.false_or, Bool.eq_false_iff]
  intro h
  rw [List.any_eq_true] at h
  obtain ⟨s, h1, h2⟩ := h
  have h1' := List.mem_range.1 h1
  rw [beq_iff_eq] at h2
  have e : itF f (itF f i (t - s)) s = itF f i s := by rw [← itF_add, show t - s + s = t by omega]; exact h2.symm
  exact hq (t - s) (by omega) (by omega) (itF_cancel hr hj (itF_lt hr hi _) hi s e)
theorem mark_shut {i : Nat} (hi : i < n) : markB n f i (perF n f i) (itF f i (perF n f i)) = true := by
  obtain ⟨p1, pn, hp, _⟩ := per_spec hr hj hi
  unfold markB
  rw [hp]
  have : (List.range (perF n f i)).any (fun s => itF f i s == i) = true := List.any_eq_true.2 ⟨0, List.mem_range.2 p1, by simp [itF]⟩
  rw [this, Bool.or_true]
end
end Go.Proofs.Ytfjokclhbbndaab
