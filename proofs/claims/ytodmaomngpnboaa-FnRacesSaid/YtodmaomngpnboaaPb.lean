/- Contracts: races, the program: rows that are still to go. -/
import Derived.Test.YtodmaomngpnboaaPa
import Derived.Test.YtodmaomngpnboaaMx
set_option linter.unusedVariables false
namespace Go.Proofs.Ytodmaomngpnboaa
open Go.RowKit Go.Maps

theorem sA_le2 {g h : Nat → Int} : ∀ N, (∀ s, s < N → g s ≤ h s) → sumA g N ≤ sumA h N
  | 0, _ => Int.le_refl _
  | N + 1, e => by rw [sA_succ, sA_succ]; have := sA_le2 N (fun s hs => e s (by omega)); have := e N (by omega); omega
/-- with how many rows squares are left behind i throws -/
def rowP (F L : Nat) : Nat → Int → Int
  | 0 => upd (fun _ => 0) (L : Int) 1
  | i + 1 => fun k => sumA (fun s => cut0 (rowP F L i) (s : Int) * raceM s F k) (L + 1)
def cntR (F L i : Nat) : Int := sumA (fun s => cut0 (rowP F L i) (s : Int)) (L + 1)
theorem cut0_nonneg {f : Int → Int} (h : ∀ k, 0 ≤ f k) (k : Int) : 0 ≤ cut0 f k ∧ cut0 f k ≤ f k := by
  have := h k
  unfold cut0; split <;> omega
theorem rowP_nonneg (F L : Nat) : ∀ i k, 0 ≤ rowP F L i k
  | 0, k => by show 0 ≤ if k = (L : Int) then (1 : Int) else 0; split <;> omega
  | i + 1, k => sA_nonneg _ fun s _ => Int.mul_nonneg (cut0_nonneg (rowP_nonneg F L i) _).1 (raceM_bd _ _ _).1
theorem race_sum (s N : Nat) : ∀ F, sumA (fun k => raceM s F (k : Int)) N ≤ F
  | 0 => by
    have e : sumA (fun k => raceM s 0 (k : Int)) N = sumA (fun _ => 0) N := sA_congr N (fun k _ => rfl)
    rw [e, sA_zero]; exact Int.le_refl _
  | F + 1 => by
    have h1 := race_sum s N F
    rw [sA_congr (h := fun k => raceM s F (k : Int) + (if k = (leftI s F).toNat then 1 else 0)) N (fun k _ => by
      rw [raceM_succ]
      have := leftI_bd s F
      by_cases e : leftI s F = (k : Int)
      · rw [if_pos e, if_pos (by omega)]
      · rw [if_neg e, if_neg (by omega)]), sA_add, sA_one (leftI s F).toNat (fun _ => 1)]
    split <;> omega
theorem rowP_sum (F L : Nat) (hF : F ≤ 6) : ∀ i, sumA (fun s => rowP F L i (s : Int)) (L + 1) ≤ ((6 ^ i : Nat) : Int)
  | 0 => by
    rw [sA_congr (h := fun k => if k = L then 1 else 0) _ (fun k _ => by
      show upd (fun _ => 0) (L : Int) 1 (k : Int) = _
      unfold upd
      by_cases e : k = L
      · rw [if_pos e, if_pos (by omega)]
      · rw [if_neg e, if_neg (by omega)]), sA_one L (fun _ => 1)]
    split <;> simp
  | i + 1 => by
    have h1 := rowP_sum F L hF i
    show sumA (fun k => sumA (fun s => cut0 (rowP F L i) (s : Int) * raceM s F (k : Int)) (L + 1)) (L + 1) ≤ _
    rw [sA_swap]
    have h2 : sumA (fun s => sumA (fun k => cut0 (rowP F L i) (s : Int) * raceM s F (k : Int)) (L + 1)) (L + 1) ≤ sumA (fun s => 6 * rowP F L i (s : Int)) (L + 1) := sA_le2 _ fun s _ => by
      rw [sA_mul]
      have a := cut0_nonneg (rowP_nonneg F L i) (s : Int)
      have b := race_sum s (L + 1) F
      have c := Int.mul_le_mul a.2 (show sumA (fun k => raceM s F (k : Int)) (L + 1) ≤ (6 : Int) by omega) (sA_nonneg _ fun k _ => (raceM_bd s F (k : Int)).1) (rowP_nonneg F L i (s : Int))
      omega
    rw [sA_mul] at h2
    have h3 : ((6 ^ (i + 1) : Nat) : Int) = ((6 ^ i : Nat) : Int) * 6 := by rw [Nat.pow_succ, Int.natCast_mul]; rfl
    omega
theorem rows_bd (F L i : Nat) (hF : F ≤ 6) (hi : i ≤ 13) : (∀ s, s < L + 1 → ∀ k, 0 ≤ cut0 (rowP F L i) (s : Int) * raceM s F k) ∧ (∀ k, sumA (fun s => cut0 (rowP F L i) (s : Int) * raceM s F k) (L + 1) ≤ 4611686018427387904) ∧ (∀ s, s < L + 1 → 0 ≤ cut0 (rowP F L i) (s : Int)) ∧ 0 ≤ cntR F L i ∧ cntR F L i ≤ 4611686018427387904 := by
  have h1 := rowP_sum F L hF i
  have h2 : (6 : Nat) ^ i ≤ 6 ^ 13 := Nat.pow_le_pow_right (by omega) hi
  have h3 : (6 : Nat) ^ 13 = 13060694016 := by decide
  have h4 := fun k => cut0_nonneg (rowP_nonneg F L i) k
  refine ⟨fun s _ k => Int.mul_nonneg (h4 _).1 (raceM_bd _ _ _).1, fun k => ?_, fun s _ => (h4 _).1, sA_nonneg _ fun s _ => (h4 _).1, ?_⟩
  · have h5 : sumA (fun s => cut0 (rowP F L i) (s : Int) * raceM s F k) (L + 1) ≤ sumA (fun s => 6 * rowP F L i (s : Int)) (L + 1) := sA_le2 _ fun s _ => by
      have b := raceM_bd s F k
      have c := Int.mul_le_mul (h4 (s : Int)).2 (show raceM s F k ≤ (6 : Int) by omega) b.1 (rowP_nonneg F L i (s : Int))
      omega
    rw [sA_mul] at h5
    omega
  · have h5 : cntR F L i ≤ sumA (fun s => rowP F L i (s : Int)) (L + 1) := sA_le2 _ fun s _ => (h4 (s : Int)).2
    omega

theorem turned_only {w w' : World} {b : Nat} (h : w.mapTurned w' b) : Only b (b + 1) w w' := by
  have g := h.grown
  obtain ⟨es, clock, es', clock', hb, rfl⟩ := h
  exact ⟨rfl, rfl, rfl, by simp [Go.ChangeMaps.setBlock], fun i hi => by
    by_cases hs : i < w.heap.size
    · exact g.block i hs (fun e => hi (by injection e with e; omega))
    · rw [Array.getElem?_eq_none (by simp [Go.ChangeMaps.setBlock]; omega), Array.getElem?_eq_none (by omega)]⟩
theorem only_grown {w w' : World} {b : Nat} (h : Only b (b + 1) w w') : w.grownBy w' (some b) :=
  ⟨h.os, h.tape, h.output, Nat.le_of_eq h.size.symm, fun i _ hne => h.block i (fun e => hne (by congr 1; omega))⟩
end Go.Proofs.Ytodmaomngpnboaa
