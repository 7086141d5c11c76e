/- Contracts: balls that are put back, urns that grow, in both texts. -/
import Derived.Test.YtfihnnhgegdjkaaQe
import Derived.Deep.RegionLaw
import Derived.Deep.RegionLawGrows
set_option linter.unusedVariables false
namespace Go.Proofs.Ytfihnnhgegdjkaa
open Go.RowKit

/-- balls of a kind behind so many draws of one -/
def redG (r a : Int) (i : Nat) : Int := r + (i : Int) * a
theorem redG_bd (r a : Int) (i : Nat) (r0 : 0 ≤ r) (r1 : r ≤ 40) (a0 : 0 ≤ a) (a1 : a ≤ 10) (hi : i < 6) : r ≤ redG r a i ∧ redG r a i ≤ 90 := by
  have h1 : 0 ≤ (i : Int) * a := Int.mul_nonneg (by omega) a0
  have h2 : (i : Int) * a ≤ 5 * 10 := Int.mul_le_mul (by omega) a1 a0 (by omega)
  unfold redG
  omega
theorem prodR_bd (g : Nat → Int) (M : Int) (n : Nat) (hM : 0 ≤ M) (h : ∀ i, i < n → 0 ≤ g i ∧ g i ≤ M) (k : Nat) (hk : k ≤ n) : 0 ≤ prodR g k ∧ prodR g k ≤ pwI M k := by
  induction k with
  | zero => exact ⟨by show (0 : Int) ≤ 1; omega, Int.le_refl _⟩
  | succ k ih =>
    have h1 := ih (by omega)
    have h2 := h k (by omega)
    exact ⟨Int.mul_nonneg h1.1 h2.1, Int.mul_le_mul h1.2 h2.2 h2.1 (Int.le_trans h1.1 h1.2)⟩
theorem prodR_pos (g : Nat → Int) (n : Nat) (h : ∀ i, i < n → 1 ≤ g i) (k : Nat) (hk : k ≤ n) : 1 ≤ prodR g k := by
  induction k with
  | zero => exact Int.le_refl _
  | succ k ih =>
    have := Int.mul_le_mul (ih (by omega)) (h k (by omega)) (by omega) (by have := ih (by omega); omega)
    show 1 ≤ prodR g k * g k
    omega
theorem pwI_90 : ∀ k, k < 9 → pwI 90 k ≤ 4304672100000000 := by decide +kernel
theorem pwI_add (x : Int) (k j : Nat) : pwI x (k + j) = pwI x k * pwI x j := by
  induction j with
  | zero => exact (Int.mul_one _).symm
  | succ j ih => show pwI x (k + j) * x = pwI x k * (pwI x j * x); rw [ih, Int.mul_assoc]
/-- what stands over the line, and under it -/
def overU (r b a : Int) (n k : Nat) : Int := ((setsR n k : Nat) : Int) * prodR (redG r a) k * prodR (redG b a) (n - k)
def underU (r b a : Int) (n : Nat) : Int := prodR (redG (r + b) a) n
theorem clo_reds (r b a : Int) (k : Nat) (w : World) (r0 : 0 ≤ r) (r1 : r ≤ 40) (a0 : 0 ≤ a) (a1 : a ≤ 10) (hi : k < 9) :
    Calls Try.prog 32 #[.agg #[.int .i64 r, .int .i64 b, .int .i64 a], .int .i64 (k : Int)] w fun e w' => e = .returned (.int .i64 (redG r a k)) ∧ Below w.heap.size w w' := by
  have h1 : 0 ≤ (k : Int) * a := Int.mul_nonneg (by omega) a0
  have h2 : (k : Int) * a ≤ 8 * 10 := Int.mul_le_mul (by omega) a1 a0 (by omega)
  unfold redG
  go_enter Try.func32, Try.ntmps32
  go_wp2
  go_ret
  exact ⟨rfl, (Below.refl _ w).alloc (Nat.le_refl _) _⟩
theorem clo_blues (r b a : Int) (k : Nat) (w : World) (r0 : 0 ≤ b) (r1 : b ≤ 40) (a0 : 0 ≤ a) (a1 : a ≤ 10) (hi : k < 9) :
    Calls Try.prog 33 #[.agg #[.int .i64 r, .int .i64 b, .int .i64 a], .int .i64 (k : Int)] w fun e w' => e = .returned (.int .i64 (redG b a k)) ∧ Below w.heap.size w w' := by
  have h1 : 0 ≤ (k : Int) * a := Int.mul_nonneg (by omega) a0
  have h2 : (k : Int) * a ≤ 8 * 10 := Int.mul_le_mul (by omega) a1 a0 (by omega)
  unfold redG
  go_enter Try.func33, Try.ntmps33
  go_wp2
  go_ret
  exact ⟨rfl, (Below.refl _ w).alloc (Nat.le_refl _) _⟩
theorem clo_balls (r b a : Int) (k : Nat) (w : World) (r0 : 0 ≤ r) (r1 : r ≤ 40) (b0 : 0 ≤ b) (b1 : b ≤ 40) (a0 : 0 ≤ a) (a1 : a ≤ 10) (hi : k < 9) :
    Calls Try.prog 34 #[.agg #[.int .i64 r, .int .i64 b, .int .i64 a], .int .i64 (k : Int)] w fun e w' => e = .returned (.int .i64 (redG (r + b) a k)) ∧ Below w.heap.size w w' := by
  have h1 : 0 ≤ (k : Int) * a := Int.mul_nonneg (by omega) a0
  have h2 : (k : Int) * a ≤ 8 * 10 := Int.mul_le_mul (by omega) a1 a0 (by omega)
  unfold redG
  go_enter Try.func34, Try.ntmps34
  go_wp2
  go_ret
  exact ⟨rfl, (Below.refl _ w).alloc (Nat.le_refl _) _⟩
theorem below_drew {B : Nat} {a w : World} (h : Below B a w) : Below B a w.drew := ⟨h.os, h.tape, h.output, h.size, h.block⟩
set_option maxHeartbeats 16000000 in
theorem chance_any (r b a : Int) (n k : Nat) (w : World) (r0 : 0 ≤ r) (b0 : 0 ≤ b) (hrb : 1 ≤ r + b) (hrb2 : r + b ≤ 40) (a0 : 0 ≤ a) (a1 : a ≤ 10) (hn : n ≤ 8) (hk : k ≤ n) (ha : a = 0 ∨ n ≤ 6) :
    Calls Try.prog 22 #[.agg #[.int .i64 r, .int .i64 b, .int .i64 a], .int .i64 (n : Int), .int .i64 (k : Int)] w fun e w' => e = .returned (.tuple #[.int .i64 (overU r b a n k / gcdI (overU r b a n k) (underU r b a n)), .int .i64 (underU r b a n / gcdI (overU r b a n k) (underU r b a n)), .bool true]) ∧ Below w.heap.size w w' := by
  have red_bd : ∀ x, 0 ≤ x → x ≤ 40 → ∀ i, i < n → x ≤ redG x a i ∧ redG x a i ≤ 90 := fun x x0 x1 i hi => by
    rcases ha with rfl | hn6
    · unfold redG; rw [Int.mul_zero]; omega
    · exact redG_bd x a i x0 x1 a0 a1 (by omega)
  have R := prodR_bd (redG r a) 90 n (by omega) (fun i hi => by have := red_bd r r0 (by omega) i hi; omega)
  have B := prodR_bd (redG b a) 90 n (by omega) (fun i hi => by have := red_bd b b0 (by omega) i hi; omega)
  have T := prodR_bd (redG (r + b) a) 90 n (by omega) (fun i hi => by have := red_bd (r + b) (by omega) (by omega) i hi; omega)
  have T1 := prodR_pos (redG (r + b) a) n (fun i hi => by have := red_bd (r + b) (by omega) (by omega) i hi; omega) n (Nat.le_refl _)
  have hmax := fun j (hj : j ≤ n) => pwI_90 j (by omega)
  have hR := fun j (hj : j ≤ n) => (show 0 ≤ prodR (redG r a) j ∧ prodR (redG r a) j ≤ 4304672100000000 from ⟨(R j hj).1, Int.le_trans (R j hj).2 (hmax j hj)⟩)
  have hB := fun j (hj : j ≤ n) => (show 0 ≤ prodR (redG b a) j ∧ prodR (redG b a) j ≤ 4304672100000000 from ⟨(B j hj).1, Int.le_trans (B j hj).2 (hmax j hj)⟩)
  have hT := fun j (hj : j ≤ n) => (show 0 ≤ prodR (redG (r + b) a) j ∧ prodR (redG (r + b) a) j ≤ 4304672100000000 from ⟨(T j hj).1, Int.le_trans (T j hj).2 (hmax j hj)⟩)
  have hRB : 0 ≤ prodR (redG r a) k * prodR (redG b a) (n - k) ∧ prodR (redG r a) k * prodR (redG b a) (n - k) ≤ 4304672100000000 := by
    have h1 := R k hk
    have h2 := B (n - k) (by omega)
    have h3 := Int.mul_le_mul h1.2 h2.2 h2.1 (Int.le_trans h1.1 h1.2)
    rw [← pwI_add, show k + (n - k) = n by omega] at h3
    exact ⟨Int.mul_nonneg h1.1 h2.1, Int.le_trans h3 (hmax n (Nat.le_refl _))⟩
  have hC : ((setsR n k : Nat) : Int) ≤ 256 := by
    have := setsQ_two n k (by omega) (by omega)
    have h2 := Nat.pow_le_pow_right (show 0 < 2 by omega) hn
    omega
  have hC0 : 0 ≤ ((setsR n k : Nat) : Int) := by omega
  have hr := hR k hk
  have hb := hB (n - k) (by omega)
  have hCR : 0 ≤ ((setsR n k : Nat) : Int) * prodR (redG r a) k ∧ ((setsR n k : Nat) : Int) * prodR (redG r a) k ≤ 1101996057600000000 := by
    have := Int.mul_le_mul hC hr.2 hr.1 (by omega)
    exact ⟨Int.mul_nonneg hC0 hr.1, by omega⟩
  have hO : 0 ≤ overU r b a n k ∧ overU r b a n k ≤ 1101996057600000000 := by
    have := Int.mul_le_mul hC hRB.2 hRB.1 (by omega)
    unfold overU
    rw [Int.mul_assoc]
    exact ⟨Int.mul_nonneg hC0 hRB.1, by omega⟩
  have hU := hT n (Nat.le_refl _)
  have C1 := Lib.hid (fun z => countQ_any n k z (by omega) (by omega))
  have P1 := Lib.hid (fun z => prodF_any k 32 #[.agg #[.int .i64 r, .int .i64 b, .int .i64 a]] #[] (redG r a) z (by omega) (fun j hj => by have := hR j (by omega); omega)
    (run_enter Try.func32 (by kernel_rfl) (by kernel_rfl)) (fun j w' hj _ => clo_reds r b a j w' r0 (by omega) a0 a1 (by omega)))
  have P2 := Lib.hid (fun z => prodF_any (n - k) 33 #[.agg #[.int .i64 r, .int .i64 b, .int .i64 a]] #[] (redG b a) z (by omega) (fun j hj => by have := hB j (by omega); omega)
    (run_enter Try.func33 (by kernel_rfl) (by kernel_rfl)) (fun j w' hj _ => clo_blues r b a j w' b0 (by omega) a0 a1 (by omega)))
  have P3 := Lib.hid (fun z => prodF_any n 34 #[.agg #[.int .i64 r, .int .i64 b, .int .i64 a]] #[] (redG (r + b) a) z (by omega) (fun j hj => by have := hT j (by omega); omega)
    (run_enter Try.func34 (by kernel_rfl) (by kernel_rfl)) (fun j w' hj _ => clo_balls r b a j w' r0 (by omega) b0 (by omega) a0 a1 (by omega)))
  rw [show ((n - k : Nat) : Int) = (n : Int) - (k : Int) by omega] at P2
  have HF := Lib.hid (fun z => fracQ_any (overU r b a n k) (underU r b a n) z hO.1 (by omega) T1 (by have := hU.2; unfold underU; omega))
  have HO := Lib.hid (show overU r b a n k = ((setsR n k : Nat) : Int) * prodR (redG r a) k * prodR (redG b a) (n - k) from rfl)
  have HU := Lib.hid (show underU r b a n = prodR (redG (r + b) a) n from rfl)
  rw [HO.out] at hO
  rw [HO.out, HU.out] at HF ⊢
  clear HO HU red_bd R B T hmax hR hB hT hRB T1 ha
  obtain ⟨hr0, hr1⟩ := hr
  obtain ⟨hb0, hb1⟩ := hb
  obtain ⟨hc0, hc1⟩ := hCR
  obtain ⟨ho0, ho1⟩ := hO
  obtain ⟨hu0, hu1⟩ := hU
  generalize ((setsR n k : Nat) : Int) = X1 at *
  generalize prodR (redG r a) k = X2 at *
  generalize prodR (redG b a) (n - k) = X3 at *
  generalize prodR (redG (r + b) a) n = X4 at *
  go_enter Try.func22, Try.ntmps22
  have c00 : (w.alloc (.cells #[.int .i64 r, .int .i64 b, .int .i64 a] 43)).cell? ⟨w.heap.size, 0, none⟩ = some (.int .i64 r) := World.cell?_alloc_at _ _ _ _ rfl
  have c01 : (w.alloc (.cells #[.int .i64 r, .int .i64 b, .int .i64 a] 43)).cell? ⟨w.heap.size, 1, none⟩ = some (.int .i64 b) := World.cell?_alloc_at _ _ _ _ rfl
  have c02 : (w.alloc (.cells #[.int .i64 r, .int .i64 b, .int .i64 a] 43)).cell? ⟨w.heap.size, 2, none⟩ = some (.int .i64 a) := World.cell?_alloc_at _ _ _ _ rfl
  have hw1 : IntKind.i64.wrap ((n : Int) - (k : Int)) = (n : Int) - (k : Int) := IntWalk.i64_in _ (by omega)
  have hw2 : IntKind.i64.wrap (X1 * X2) = X1 * X2 := IntWalk.i64_in _ (by omega)
  have hw3 : IntKind.i64.wrap (X1 * X2 * X3) = X1 * X2 * X3 := IntWalk.i64_in _ (by omega)
  go_wp2
  go_region_law (first | (go_simp; go_at_call 25; refine (C1.out _).mono ?_; rintro e w' ⟨rfl, rfl⟩) | (go_simp; go_at_call 31; (with_reducible refine (P1.out _).mono ?_); rintro e w1 ⟨rfl, hb1⟩; have c10 : w1.cell? ⟨w.heap.size, 0, none⟩ = some (.int .i64 r) := cell_keep hb1 c00; have c11 : w1.cell? ⟨w.heap.size, 1, none⟩ = some (.int .i64 b) := cell_keep hb1 c01; have c12 : w1.cell? ⟨w.heap.size, 2, none⟩ = some (.int .i64 a) := cell_keep hb1 c02; have Hb1 : Hid (Below w.heap.size w w1) := Lib.hid ((below_drew ((Below.refl _ w).alloc (Nat.le_refl _) _)).trans (hb1.mono (by simp))); clear hb1) | (go_simp; go_at_call 31; (with_reducible refine (P2.out _).mono ?_); rintro e w2 ⟨rfl, hb2⟩; have c20 : w2.cell? ⟨w.heap.size, 0, none⟩ = some (.int .i64 r) := cell_keep hb2 c10; have c21 : w2.cell? ⟨w.heap.size, 1, none⟩ = some (.int .i64 b) := cell_keep hb2 c11; have c22 : w2.cell? ⟨w.heap.size, 2, none⟩ = some (.int .i64 a) := cell_keep hb2 c12; have Hb2 : Hid (Below w.heap.size w w2) := Lib.hid (Hb1.out.trans (hb2.mono Hb1.out.size)); clear hb2))
  all_goals
    go_wp2_with (first | (go_at_call 31; refine (P3.out _).mono ?_; rintro e w3 ⟨rfl, hb3⟩; have Hb3 : Hid (Below w.heap.size w w3) := Lib.hid (Hb2.out.trans (hb3.mono Hb2.out.size)); clear hb3) | (go_at_call 24; refine (HF.out _).mono ?_; rintro e w4 ⟨rfl, m, rfl⟩))
    go_ret3
    exact ⟨rfl, below_drewN Hb3.out _⟩

end Go.Proofs.Ytfihnnhgegdjkaa
