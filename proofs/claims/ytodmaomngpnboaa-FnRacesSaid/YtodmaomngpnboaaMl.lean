/- Contracts: PoolChance, the program. -/
import Derived.Test.YtodmaomngpnboaaMk
import Derived.Test.YtodmaomngpnboaaMc
import Derived.Test.YtodmaomngpnboaaQb
import Derived.Deep.RegionLawGrows
set_option linter.unusedVariables false
namespace Go.Proofs.Ytodmaomngpnboaa
open Go.RowKit

theorem pwI_mono5 (x y : Int) (h0 : 0 ≤ x) (h : x ≤ y) (k : Nat) : 0 ≤ pwI x k ∧ pwI x k ≤ pwI y k := by
  induction k with
  | zero => exact ⟨by show (0 : Int) ≤ 1; omega, Int.le_refl _⟩
  | succ k ih => exact ⟨Int.mul_nonneg ih.1 h0, Int.mul_le_mul ih.2 h h0 (Int.le_trans ih.1 ih.2)⟩
theorem pwI_one (x : Int) (h : 1 ≤ x) (k : Nat) : 1 ≤ pwI x k := by
  induction k with
  | zero => exact Int.le_refl _
  | succ k ih =>
    have := Int.mul_le_mul ih h (by omega) (by omega)
    show 1 ≤ pwI x k * x
    omega
theorem pw12_tab : ((List.range 9).all fun D => (List.range (D + 1)).all fun i => decide (pwI 12 i * pwI 12 (D - i) ≤ 429981696) && decide (pwI 12 i ≤ 429981696) && decide (setsR D i ≤ 70) && decide (setsR D (i + 1) ≤ 70) && decide (setsR D i * (D - i) ≤ 560)) = true := by decide +kernel
theorem pw12_at (D i : Nat) (hD : D ≤ 8) (hi : i ≤ D) : pwI 12 i * pwI 12 (D - i) ≤ 429981696 ∧ pwI 12 i ≤ 429981696 ∧ setsR D i ≤ 70 ∧ setsR D i * (D - i) ≤ 560 := by
  have := List.all_eq_true.1 (List.all_eq_true.1 pw12_tab D (List.mem_range.2 (by omega))) i (List.mem_range.2 (by omega))
  simp only [Bool.and_eq_true, decide_eq_true_eq] at this
  exact ⟨this.1.1.1.1, this.1.1.1.2, this.1.1.2, this.2⟩
/-- of so many throws just i are enough, in how many ways -/
def poolT (h c : Int) (D i : Nat) : Int := (setsR D i : Int) * pwI h i * pwI c (D - i)
def poolS (h c : Int) (D need : Nat) : Nat → Int
  | 0 => 0
  | k + 1 => poolS h c D need k + (if need ≤ k then poolT h c D k else 0)
theorem poolT_bd (h c : Int) (D i : Nat) (h0 : 0 ≤ h) (h1 : h ≤ 12) (c0 : 0 ≤ c) (c1 : c ≤ 12) (hD : D ≤ 8) (hi : i ≤ D) :
    (0 ≤ pwI h i ∧ pwI h i ≤ 429981696) ∧ (0 ≤ pwI c (D - i) ∧ pwI c (D - i) ≤ 429981696) ∧ (0 ≤ (setsR D i : Int) * pwI h i ∧ (setsR D i : Int) * pwI h i ≤ 30098718720) ∧ 0 ≤ poolT h c D i ∧ poolT h c D i ≤ 30098718720 := by
  obtain ⟨t1, t2, t3, -⟩ := pw12_at D i hD hi
  obtain ⟨-, t5, -, -⟩ := pw12_at D (D - i) hD (by omega)
  have p1 := pwI_mono5 h 12 h0 h1 i
  have p2 := pwI_mono5 c 12 c0 c1 (D - i)
  have m1 := Int.mul_le_mul p1.2 p2.2 p2.1 (Int.le_trans p1.1 p1.2)
  have m0 := Int.mul_nonneg p1.1 p2.1
  have s0 : 0 ≤ (setsR D i : Int) := by omega
  have s1 : (setsR D i : Int) ≤ 70 := by omega
  have a1 := Int.mul_le_mul s1 (Int.le_trans p1.2 t2) p1.1 (by omega)
  have a2 := Int.mul_le_mul s1 (Int.le_trans m1 t1) m0 (by omega)
  have a3 := Int.mul_nonneg s0 m0
  refine ⟨⟨p1.1, Int.le_trans p1.2 t2⟩, ⟨p2.1, Int.le_trans p2.2 t5⟩, ⟨Int.mul_nonneg s0 p1.1, by omega⟩, ?_⟩
  unfold poolT
  rw [Int.mul_assoc]
  exact ⟨a3, by omega⟩
theorem poolS_bd (h c : Int) (D need : Nat) (h0 : 0 ≤ h) (h1 : h ≤ 12) (c0 : 0 ≤ c) (c1 : c ≤ 12) (hD : D ≤ 8) : ∀ k, k ≤ D + 1 → 0 ≤ poolS h c D need k ∧ poolS h c D need k ≤ (k : Int) * 30098718720
  | 0, _ => by show 0 ≤ (0 : Int) ∧ (0 : Int) ≤ _; omega
  | k + 1, hk => by
    have ih := poolS_bd h c D need h0 h1 c0 c1 hD k (by omega)
    have := (poolT_bd h c D k h0 h1 c0 c1 hD (by omega)).2.2.2
    rw [poolS]
    split <;> omega
theorem poolS_none (h c : Int) (D need : Nat) : ∀ k, k ≤ need → poolS h c D need k = 0
  | 0, _ => rfl
  | k + 1, hk => by rw [poolS, poolS_none h c D need k (by omega), if_neg (by omega)]; rfl
theorem poolS_step (h c : Int) (D need k : Nat) (hk : need ≤ k) : poolS h c D need (k + 1) = poolS h c D need k + poolT h c D k := by rw [poolS, if_pos hk]

def hitN (least : Int) (fs : List Int) : Nat := cntP (fun x => decide (least ≤ x)) fs fs.length
def okPool (a : Int) (fs : List Int) (need : Int) : Bool := ((decide (1 ≤ a) && decide (a ≤ 8)) && dieB fs) && (decide (0 ≤ need) && decide (need ≤ a))
def poolX (a : Int) (fs : List Int) (least need : Int) : Int := poolS ((hitN least fs : Nat) : Int) ((fs.length : Int) - ((hitN least fs : Nat) : Int)) a.toNat need.toNat (a.toNat + 1)
def poolY (a : Int) (fs : List Int) : Int := pwI (fs.length : Int) a.toNat
def ok_PoolChance (a : Int) (fs : List Int) (least need : Int) : Bool := okPool a fs need
def res_PoolChance (a : Int) (fs : List Int) (least need : Int) : Int := if okPool a fs need = true then poolX a fs least need / gcdI (poolX a fs least need) (poolY a fs) else 0
def res2_PoolChance (a : Int) (fs : List Int) (least need : Int) : Int := if okPool a fs need = true then poolY a fs / gcdI (poolX a fs least need) (poolY a fs) else 0
theorem pool_no {a : Int} {fs : List Int} {least need : Int} (h : okPool a fs need = false) : ok_PoolChance a fs least need = false ∧ res_PoolChance a fs least need = 0 ∧ res2_PoolChance a fs least need = 0 := by
  unfold ok_PoolChance res_PoolChance res2_PoolChance
  rw [h]; exact ⟨rfl, rfl, rfl⟩

