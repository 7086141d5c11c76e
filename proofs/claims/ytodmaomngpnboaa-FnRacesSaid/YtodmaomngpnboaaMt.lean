/- Ways of sums of dice, as numbers: rows, moments, bounds. -/
import Derived.Test.YtodmaomngpnboaaVa
import Derived.Test.YtodmaomngpnboaaMn
set_option linter.unusedVariables false
namespace Go.Proofs.Ytodmaomngpnboaa
open Go.RowKit

theorem sA_succ (g : Nat → Int) (N : Nat) : sumA g (N + 1) = sumA g N + g N := rfl
theorem sA_congr {g h : Nat → Int} : ∀ N, (∀ s, s < N → g s = h s) → sumA g N = sumA h N
  | 0, _ => rfl
  | N + 1, e => by rw [sA_succ, sA_succ, sA_congr N (fun s hs => e s (by omega)), e N (by omega)]
theorem sA_add (g h : Nat → Int) : ∀ N, sumA (fun s => g s + h s) N = sumA g N + sumA h N
  | 0 => rfl
  | N + 1 => by rw [sA_succ, sA_succ, sA_succ, sA_add g h N]; omega
theorem sA_mul (c : Int) (g : Nat → Int) : ∀ N, sumA (fun s => c * g s) N = c * sumA g N
  | 0 => (Int.mul_zero c).symm
  | N + 1 => by rw [sA_succ, sA_succ, sA_mul c g N, Int.mul_add]
theorem sA_zero : ∀ N, sumA (fun _ => 0) N = 0
  | 0 => rfl
  | N + 1 => by rw [sA_succ, sA_zero N]; rfl
theorem sA_swap (f : Nat → Nat → Int) (M : Nat) : ∀ N, sumA (fun i => sumA (fun j => f i j) M) N = sumA (fun j => sumA (fun i => f i j) N) M
  | 0 => (sA_zero M).symm
  | N + 1 => by
    rw [sA_succ, sA_swap f M N, ← sA_add]
    rfl
theorem sA_nonneg {g : Nat → Int} : ∀ N, (∀ s, s < N → 0 ≤ g s) → 0 ≤ sumA g N
  | 0, _ => Int.le_refl _
  | N + 1, h => by have := sA_nonneg N (fun s hs => h s (by omega)); have := h N (by omega); rw [sA_succ]; omega
theorem sA_mono {g : Nat → Int} (N : Nat) : ∀ M, (∀ s, s < N + M → 0 ≤ g s) → sumA g N ≤ sumA g (N + M)
  | 0, _ => Int.le_refl _
  | M + 1, h => by have := sA_mono N M (fun s hs => h s (by omega)); have := h (N + M) (by omega); show _ ≤ sumA g (N + M) + g (N + M); omega
theorem sA_at {g : Nat → Int} (N k : Nat) (hk : k < N) (h : ∀ s, s < N → 0 ≤ g s) : g k ≤ sumA g N := by
  have h1 := sA_mono (g := g) (k + 1) (N - (k + 1)) (fun s hs => h s (by omega))
  rw [show k + 1 + (N - (k + 1)) = N by omega, sA_succ] at h1
  have := sA_nonneg (g := g) k (fun s hs => h s (by omega))
  omega
theorem sA_one (x : Nat) (G : Nat → Int) : ∀ N : Nat, sumA (fun s => if s = x then G s else 0) N = if x < N then G x else 0
  | 0 => by rw [if_neg (by omega)]; rfl
  | N + 1 => by
    rw [sA_succ, sA_one x G N]
    by_cases e : N = x
    · subst e; rw [if_neg (by omega), if_pos rfl, if_pos (by omega), Int.zero_add]
    · rw [if_neg e, Int.add_zero]
      by_cases h : x < N
      · rw [if_pos h, if_pos (by omega)]
      · rw [if_neg h, if_neg (by omega)]

/-- with how many of the first i faces one comes from s to k -/
def faceM (fs : List Int) (s : Nat) (i : Nat) (k : Int) : Int := sumA (fun j => if (s : Int) + fs.getD j 0 = k then 1 else 0) i
def lastF (fs : List Int) : Nat := (fs.getD (fs.length - 1) 0).toNat
/-- how many sums there are of the first j dice, from 0 on -/
def topN (ds : List (List Int)) : Nat → Nat
  | 0 => 1
  | j + 1 => topN ds j + lastF (ds.getD j [])
/-- in how many ways the first j dice have a sum -/
def wayF (ds : List (List Int)) : Nat → Int → Int
  | 0 => fun k => if k = 0 then 1 else 0
  | j + 1 => fun k => sumA (fun s => wayF ds j (s : Int) * faceM (ds.getD j []) s (ds.getD j []).length k) (topN ds j)
theorem faceM_bd (fs : List Int) (s i : Nat) (k : Int) : 0 ≤ faceM fs s i k ∧ faceM fs s i k ≤ i := by
  induction i with
  | zero => exact ⟨Int.le_refl _, Int.le_refl _⟩
  | succ i ih => unfold faceM at *; rw [sA_succ]; split <;> omega
theorem faceM_succ (fs : List Int) (s i : Nat) (k : Int) : faceM fs s (i + 1) k = faceM fs s i k + (if (s : Int) + fs.getD i 0 = k then 1 else 0) := rfl
theorem wayF_nonneg (ds : List (List Int)) : ∀ j k, 0 ≤ wayF ds j k
  | 0, k => by show 0 ≤ if k = 0 then (1 : Int) else 0; split <;> omega
  | j + 1, k => sA_nonneg _ fun s _ => Int.mul_nonneg (wayF_nonneg ds j s) (faceM_bd _ _ _ _).1
theorem asc_le (fs : List Int) (h : ∀ k, k + 1 < fs.length → fs.getD k 0 ≤ fs.getD (k + 1) 0) (i : Nat) : ∀ j, i + j < fs.length → fs.getD i 0 ≤ fs.getD (i + j) 0
  | 0, _ => Int.le_refl _
  | j + 1, hj => Int.le_trans (asc_le fs h i j (by omega)) (h (i + j) (by omega))
theorem face_last (fs : List Int) (h : dieB fs = true) (i : Nat) (hi : i < fs.length) : 0 ≤ fs.getD i 0 ∧ fs.getD i 0 ≤ (lastF fs : Int) := by
  obtain ⟨h1, h12, ha, hs⟩ := dieB_at h
  have h2 := ha i hi
  have h3 := asc_le fs hs i (fs.length - 1 - i) (by omega)
  rw [show i + (fs.length - 1 - i) = fs.length - 1 by omega] at h3
  unfold lastF
  omega
theorem lastF_le (fs : List Int) (h : dieB fs = true) : lastF fs ≤ 20 ∧ (lastF fs : Int) = fs.getD (fs.length - 1) 0 := by
  obtain ⟨h1, h12, ha, hs⟩ := dieB_at h
  have h2 := ha (fs.length - 1) (by omega)
  unfold lastF
  omega
/-- the sum of what each sum counts for -/
def momF (ds : List (List Int)) (g : Nat → Int) (j : Nat) : Int := sumA (fun k => wayF ds j (k : Int) * g k) (topN ds j)
theorem face_mom (fs : List Int) (g : Nat → Int) (s N : Nat) : ∀ i, (∀ j, j < i → 0 ≤ fs.getD j 0 ∧ (s : Int) + fs.getD j 0 < N) → sumA (fun k => faceM fs s i (k : Int) * g k) N = sumA (fun j => g (s + (fs.getD j 0).toNat)) i
  | 0, _ => by
    rw [sA_congr (h := fun _ => 0) N (fun k _ => by show (0 : Int) * _ = 0; exact Int.zero_mul _), sA_zero]; rfl
  | i + 1, h => by
    rw [sA_succ, ← face_mom fs g s N i (fun j hj => h j (by omega))]
    have h1 := h i (by omega)
    rw [sA_congr (h := fun k => faceM fs s i (k : Int) * g k + (if k = s + (fs.getD i 0).toNat then g k else 0)) N (fun k _ => by
      rw [faceM_succ, Int.add_mul]
      congr 1
      by_cases e : (s : Int) + fs.getD i 0 = k
      · rw [if_pos e, if_pos (by omega), Int.one_mul]
      · rw [if_neg e, if_neg (by omega), Int.zero_mul]), sA_add, sA_one, if_pos (by omega)]
theorem momF_step (ds : List (List Int)) (g : Nat → Int) (j : Nat) (h : dieB (ds.getD j []) = true) : momF ds g (j + 1) = momF ds (fun s => sumA (fun i => g (s + ((ds.getD j []).getD i 0).toNat)) (ds.getD j []).length) j := by
  unfold momF
  rw [sA_congr (h := fun k => sumA (fun s => wayF ds j (s : Int) * (faceM (ds.getD j []) s (ds.getD j []).length (k : Int) * g k)) (topN ds j)) (topN ds (j + 1)) (fun k _ => by
    show sumA (fun s => wayF ds j (s : Int) * faceM (ds.getD j []) s (ds.getD j []).length (k : Int)) (topN ds j) * g k = _
    rw [Int.mul_comm, ← sA_mul]
    exact sA_congr _ fun s _ => by rw [← Int.mul_assoc, Int.mul_comm (g k), Int.mul_assoc, Int.mul_comm (g k)]), sA_swap]
  refine sA_congr _ fun s hs => ?_
  rw [sA_mul, face_mom]
  intro i hi
  have := face_last _ h i hi
  refine ⟨this.1, ?_⟩
  show _ < ((topN ds j + lastF (ds.getD j []) : Nat) : Int)
  omega
theorem sA_const (c : Int) : ∀ N : Nat, sumA (fun _ => c) N = N * c
  | 0 => (Int.zero_mul c).symm
  | N + 1 => by rw [sA_succ, sA_const c N, show ((N + 1 : Nat) : Int) = (N : Int) + 1 from rfl, Int.add_mul, Int.one_mul]
/-- how many ways there are at all -/
def allW (ds : List (List Int)) (j : Nat) : Int := momF ds (fun _ => 1) j
theorem momF_congr (ds : List (List Int)) {g h : Nat → Int} (j : Nat) (e : ∀ k, g k = h k) : momF ds g j = momF ds h j := sA_congr _ fun k _ => by rw [e]
theorem momF_mul (ds : List (List Int)) (c : Int) (g : Nat → Int) (j : Nat) : momF ds (fun k => c * g k) j = c * momF ds g j := by
  unfold momF; rw [← sA_mul]; exact sA_congr _ fun k _ => by rw [← Int.mul_assoc, Int.mul_comm _ c, Int.mul_assoc]
theorem momF_add (ds : List (List Int)) (g h : Nat → Int) (j : Nat) : momF ds (fun k => g k + h k) j = momF ds g j + momF ds h j := by
  unfold momF; rw [← sA_add]; exact sA_congr _ fun k _ => by rw [Int.mul_add]
theorem allW_zero (ds : List (List Int)) : allW ds 0 = 1 := rfl
theorem allW_step (ds : List (List Int)) (j : Nat) (h : dieB (ds.getD j []) = true) : allW ds (j + 1) = ((ds.getD j []).length : Int) * allW ds j := by
  unfold allW
  rw [momF_step ds _ j h, ← momF_mul]
  exact momF_congr ds j fun k => by rw [sA_const]
theorem allW_bd (ds : List (List Int)) (h : ∀ k, k < ds.length → dieB (ds.getD k []) = true) : ∀ j, j ≤ ds.length → 1 ≤ allW ds j ∧ allW ds j ≤ 12 ^ j
  | 0, _ => by rw [allW_zero]; omega
  | j + 1, hj => by
    have ih := allW_bd ds h j (by omega)
    obtain ⟨h1, h12, -, -⟩ := dieB_at (h j (by omega))
    rw [allW_step ds j (h j (by omega))]
    have m1 := Int.mul_le_mul (show (1 : Int) ≤ ((ds.getD j []).length : Int) by omega) ih.1 (by omega) (by omega)
    have m2 := Int.mul_le_mul (show ((ds.getD j []).length : Int) ≤ 12 by omega) ih.2 (by omega) (by omega)
    rw [Int.pow_succ, Int.mul_comm _ 12]
    omega
theorem topN_le (ds : List (List Int)) (h : ∀ k, k < ds.length → dieB (ds.getD k []) = true) : ∀ j, j ≤ ds.length → 1 ≤ topN ds j ∧ topN ds j ≤ 20 * j + 1
  | 0, _ => by show 1 ≤ 1 ∧ 1 ≤ _; omega
  | j + 1, hj => by
    have ih := topN_le ds h j (by omega)
    have := (lastF_le _ (h j (by omega))).1
    show 1 ≤ topN ds j + lastF (ds.getD j []) ∧ topN ds j + lastF (ds.getD j []) ≤ _
    omega
theorem pow12_6 : ∀ j, j ≤ 6 → (12 : Int) ^ j ≤ 2985984 := by decide
theorem wayF_le (ds : List (List Int)) (h6 : ds.length ≤ 6) (h : ∀ k, k < ds.length → dieB (ds.getD k []) = true) (j : Nat) (hj : j ≤ ds.length) (k : Nat) (hk : k < topN ds j) : wayF ds j (k : Int) ≤ 2985984 := by
  have h1 := sA_at (g := fun k => wayF ds j (k : Int) * 1) (topN ds j) k hk (fun s _ => by rw [Int.mul_one]; exact wayF_nonneg ds j s)
  have h2 : sumA (fun k => wayF ds j (k : Int) * 1) (topN ds j) ≤ 12 ^ j := (allW_bd ds h j hj).2
  have h3 := pow12_6 j (by omega)
  rw [Int.mul_one] at h1
  omega
theorem wayF_out (ds : List (List Int)) (h : ∀ k, k < ds.length → dieB (ds.getD k []) = true) : ∀ j, j ≤ ds.length → ∀ k : Int, (k < 0 ∨ (topN ds j : Int) ≤ k) → wayF ds j k = 0
  | 0, _, k, hk => by
    show (if k = 0 then (1 : Int) else 0) = 0
    rw [if_neg (by have : topN ds 0 = 1 := rfl; omega)]
  | j + 1, hj, k, hk => by
    show sumA (fun s => wayF ds j (s : Int) * faceM (ds.getD j []) s (ds.getD j []).length k) (topN ds j) = 0
    rw [sA_congr (h := fun _ => 0) _ (fun s hs => by
      have : faceM (ds.getD j []) s (ds.getD j []).length k = 0 := by
        unfold faceM
        rw [sA_congr (h := fun _ => 0) _ (fun i hi => by
          have := face_last _ (h j (by omega)) i hi
          have e : topN ds (j + 1) = topN ds j + lastF (ds.getD j []) := rfl
          rw [if_neg (by omega)]), sA_zero]
      rw [this, Int.mul_zero]), sA_zero]
/-- partial sums: the first k states, and i faces of the next -/
def nextP (ds : List (List Int)) (j k i : Nat) (t : Int) : Int := sumA (fun s => wayF ds j (s : Int) * faceM (ds.getD j []) s (ds.getD j []).length t) k + wayF ds j (k : Int) * faceM (ds.getD j []) k i t
theorem nextP_bd (ds : List (List Int)) (h6 : ds.length ≤ 6) (h : ∀ k, k < ds.length → dieB (ds.getD k []) = true) (j : Nat) (hj : j < ds.length) (k i : Nat) (hk : k < topN ds j) (hi : i ≤ (ds.getD j []).length) (t : Nat) (ht : t < topN ds (j + 1)) : 0 ≤ nextP ds j k i (t : Int) ∧ nextP ds j k i (t : Int) ≤ 2985984 := by
  have hn : ∀ s : Nat, 0 ≤ wayF ds j (s : Int) * faceM (ds.getD j []) s (ds.getD j []).length (t : Int) := fun s => Int.mul_nonneg (wayF_nonneg ds j s) (faceM_bd _ _ _ _).1
  have h1 := sA_mono (g := fun s => wayF ds j (s : Int) * faceM (ds.getD j []) s (ds.getD j []).length (t : Int)) (k + 1) (topN ds j - (k + 1)) (fun s _ => hn s)
  rw [show k + 1 + (topN ds j - (k + 1)) = topN ds j by omega, sA_succ] at h1
  have h2 := wayF_le ds h6 h (j + 1) (by omega) t ht
  have h2' : wayF ds (j + 1) (t : Int) = sumA (fun s => wayF ds j (s : Int) * faceM (ds.getD j []) s (ds.getD j []).length (t : Int)) (topN ds j) := rfl
  have h3 : faceM (ds.getD j []) k i (t : Int) ≤ faceM (ds.getD j []) k (ds.getD j []).length (t : Int) := by
    have := sA_mono (g := fun x => if (k : Int) + (ds.getD j []).getD x 0 = (t : Int) then 1 else 0) i ((ds.getD j []).length - i) (fun s _ => by split <;> omega)
    rw [show i + ((ds.getD j []).length - i) = (ds.getD j []).length by omega] at this
    exact this
  have h4 := Int.mul_le_mul_of_nonneg_left h3 (wayF_nonneg ds j k)
  have h5 := Int.mul_nonneg (wayF_nonneg ds j k) (faceM_bd (ds.getD j []) k i (t : Int)).1
  have h6 := sA_nonneg (g := fun s => wayF ds j (s : Int) * faceM (ds.getD j []) s (ds.getD j []).length (t : Int)) k (fun s _ => hn s)
  unfold nextP
  omega
theorem nextP_zero (ds : List (List Int)) (j : Nat) (t : Int) : nextP ds j 0 0 t = 0 := by
  unfold nextP; show 0 + _ * (0 : Int) = 0; rw [Int.mul_zero]; rfl
theorem nextP_row (ds : List (List Int)) (j k : Nat) (t : Int) : nextP ds j k (ds.getD j []).length t = nextP ds j (k + 1) 0 t := by
  unfold nextP
  rw [sA_succ]
  show _ = _ + _ + _ * (0 : Int)
  rw [Int.mul_zero, Int.add_zero]
theorem nextP_done (ds : List (List Int)) (j : Nat) (t : Int) : nextP ds j (topN ds j) 0 t = wayF ds (j + 1) t := by
  unfold nextP
  show _ + _ * (0 : Int) = _
  rw [Int.mul_zero, Int.add_zero]; rfl
theorem nextP_step (ds : List (List Int)) (j k i : Nat) (t : Int) : nextP ds j k (i + 1) t = nextP ds j k i t + (if (k : Int) + (ds.getD j []).getD i 0 = t then wayF ds j (k : Int) else 0) := by
  unfold nextP
  rw [faceM_succ, Int.mul_add, Int.add_assoc]
  congr 2
  split
  · rw [Int.mul_one]
  · rw [Int.mul_zero]
end Go.Proofs.Ytodmaomngpnboaa
