/- Contracts: spreads of dice, in both texts. -/
import Derived.Test.YtodmaomngpnboaaMz
set_option linter.unusedVariables false
namespace Go.Proofs.Ytodmaomngpnboaa
open Go.RowKit Go.Maps

/-- fractions that are equal are equal without common factors -/
theorem frac_same (a b c d : Nat) (hb : 0 < b) (hd : 0 < d) (h : a * d = c * b) : a / Nat.gcd a b = c / Nat.gcd c d ∧ b / Nat.gcd a b = d / Nat.gcd c d := by
  have g0 : 0 < Nat.gcd a b := Nat.gcd_pos_of_pos_right a hb
  have k0 : 0 < Nat.gcd c d := Nat.gcd_pos_of_pos_right c hd
  have c1 : Nat.Coprime (a / Nat.gcd a b) (b / Nat.gcd a b) := Nat.coprime_div_gcd_div_gcd g0
  have c2 : Nat.Coprime (c / Nat.gcd c d) (d / Nat.gcd c d) := Nat.coprime_div_gcd_div_gcd k0
  have ea := Nat.div_mul_cancel (Nat.gcd_dvd_left a b)
  have eb := Nat.div_mul_cancel (Nat.gcd_dvd_right a b)
  have ec := Nat.div_mul_cancel (Nat.gcd_dvd_left c d)
  have ed := Nat.div_mul_cancel (Nat.gcd_dvd_right c d)
  generalize Nat.gcd a b = g at *
  generalize Nat.gcd c d = k at *
  generalize a / g = a' at *
  generalize b / g = b' at *
  generalize c / k = c' at *
  generalize d / k = d' at *
  have h2 : a' * d' = c' * b' := by
    rw [← ea, ← eb, ← ec, ← ed] at h
    have e1 : a' * g * (d' * k) = (a' * d') * (g * k) := by rw [Nat.mul_mul_mul_comm]
    have e2 : c' * k * (b' * g) = (c' * b') * (g * k) := by rw [Nat.mul_mul_mul_comm, Nat.mul_comm k g]
    rw [e1, e2] at h
    exact Nat.eq_of_mul_eq_mul_right (Nat.mul_pos g0 k0) h
  have d1 : b' ∣ d' := (Nat.Coprime.symm c1).dvd_of_dvd_mul_left ⟨c', by rw [h2, Nat.mul_comm]⟩
  have d2 : d' ∣ b' := (Nat.Coprime.symm c2).dvd_of_dvd_mul_left ⟨a', by rw [← h2, Nat.mul_comm]⟩
  have hbd : b' = d' := Nat.dvd_antisymm d1 d2
  have hb' : 0 < b' := Nat.pos_of_ne_zero fun e => by rw [e, Nat.zero_mul] at eb; omega
  refine ⟨?_, hbd⟩
  rw [← hbd] at h2
  exact Nat.eq_of_mul_eq_mul_right hb' h2
theorem fracI_same (a b c d : Int) (ha : 0 ≤ a) (hb : 1 ≤ b) (hc : 0 ≤ c) (hd : 1 ≤ d) (h : a * d = c * b) : a / gcdI a b = c / gcdI c d ∧ b / gcdI a b = d / gcdI c d := by
  obtain ⟨a, rfl⟩ : ∃ n : Nat, a = n := ⟨a.toNat, by omega⟩
  obtain ⟨b, rfl⟩ : ∃ n : Nat, b = n := ⟨b.toNat, by omega⟩
  obtain ⟨c, rfl⟩ : ∃ n : Nat, c = n := ⟨c.toNat, by omega⟩
  obtain ⟨d, rfl⟩ : ∃ n : Nat, d = n := ⟨d.toNat, by omega⟩
  have h' : a * d = c * b := by
    have : ((a * d : Nat) : Int) = ((c * b : Nat) : Int) := by rw [Int.natCast_mul, Int.natCast_mul]; exact h
    omega
  obtain ⟨h1, h2⟩ := frac_same a b c d (by omega) (by omega) h'
  unfold gcdI
  rw [Int.toNat_natCast, Int.toNat_natCast, Int.toNat_natCast, Int.toNat_natCast, ← Int.natCast_ediv, ← Int.natCast_ediv, ← Int.natCast_ediv, ← Int.natCast_ediv, h1, h2]
  exact ⟨rfl, rfl⟩
theorem frac_cross (a b : Int) (ha : 0 ≤ a) (hb : 1 ≤ b) : (a / gcdI a b) * b = a * (b / gcdI a b) ∧ 0 ≤ a / gcdI a b ∧ 1 ≤ b / gcdI a b ∧ a / gcdI a b ≤ a ∧ b / gcdI a b ≤ b := by
  obtain ⟨a, rfl⟩ : ∃ n : Nat, a = n := ⟨a.toNat, by omega⟩
  obtain ⟨b, rfl⟩ : ∃ n : Nat, b = n := ⟨b.toNat, by omega⟩
  unfold gcdI
  rw [Int.toNat_natCast, Int.toNat_natCast, ← Int.natCast_ediv, ← Int.natCast_ediv]
  have g0 : 0 < Nat.gcd a b := Nat.gcd_pos_of_pos_right a (by omega)
  have ea := Nat.div_mul_cancel (Nat.gcd_dvd_left a b)
  have eb := Nat.div_mul_cancel (Nat.gcd_dvd_right a b)
  have l1 := Nat.div_le_self a (Nat.gcd a b)
  have l2 := Nat.div_le_self b (Nat.gcd a b)
  have l3 : 0 < b / Nat.gcd a b := Nat.div_pos (Nat.le_of_dvd (by omega) (Nat.gcd_dvd_right a b)) g0
  generalize Nat.gcd a b = g at *
  generalize a / g = a' at *
  generalize b / g = b' at *
  refine ⟨?_, by omega, by omega, by omega, by omega⟩
  rw [← Int.natCast_mul, ← Int.natCast_mul]
  congr 1
  rw [← ea, ← eb]
  grind

/-- the spread's upper number over allW squared -/
def sprP (ds : List (List Int)) (j : Nat) : Int := allW ds j * mean2 ds j - mean1 ds j * mean1 ds j
def sprQ (ds : List (List Int)) (j : Nat) : Int := allW ds j * allW ds j
def varF (fs : List Int) : Int := (fs.length : Int) * sqL fs fs.length - sumL fs fs.length * sumL fs fs.length
theorem spr_poly (n A S T F Q : Int) : (n * A) * (n * T + (2 * F * S + Q * A)) - (S * n + F * A) * (S * n + F * A) = (n * n) * (A * T - S * S) + (A * A) * (n * Q - F * F) := by
  grind
theorem sprP_step (ds : List (List Int)) (j : Nat) (h : dieB (ds.getD j []) = true) : sprP ds (j + 1) = (((ds.getD j []).length : Int) * ((ds.getD j []).length : Int)) * sprP ds j + sprQ ds j * varF (ds.getD j []) := by
  unfold sprP sprQ varF
  rw [mean2_step ds j h, mean1_step ds j h, allW_step ds j h]
  exact spr_poly _ _ _ _ _ _
theorem sprQ_step (ds : List (List Int)) (j : Nat) (h : dieB (ds.getD j []) = true) : sprQ ds (j + 1) = (((ds.getD j []).length : Int) * ((ds.getD j []).length : Int)) * sprQ ds j := by
  unfold sprQ
  rw [allW_step ds j h]
  grind

theorem sq_nonneg5 (x : Int) : 0 ≤ x * x := by
  by_cases h : 0 ≤ x
  · exact Int.mul_nonneg h h
  · have := Int.mul_nonneg (show 0 ≤ -x by omega) (show 0 ≤ -x by omega)
    rwa [Int.neg_mul_neg] at this
theorem dev_pos (fs : List Int) (x : Int) : ∀ k : Nat, 0 ≤ sqL fs k + (k : Int) * (x * x) - 2 * x * sumL fs k
  | 0 => by show 0 ≤ (0 : Int) + (0 : Int) * (x * x) - 2 * x * 0; rw [Int.zero_mul, Int.mul_zero]; omega
  | k + 1 => by
    have ih := dev_pos fs x k
    have h := sq_nonneg5 (fs.getD k 0 - x)
    have e : sqL fs (k + 1) + ((k + 1 : Nat) : Int) * (x * x) - 2 * x * sumL fs (k + 1) = (sqL fs k + (k : Int) * (x * x) - 2 * x * sumL fs k) + (fs.getD k 0 - x) * (fs.getD k 0 - x) := by
      rw [sqL, sumL, show ((k + 1 : Nat) : Int) = (k : Int) + 1 from rfl]
      grind
    rw [e]; omega
theorem var_pos (fs : List Int) : ∀ k : Nat, 0 ≤ (k : Int) * sqL fs k - sumL fs k * sumL fs k
  | 0 => by show 0 ≤ (0 : Int) * 0 - 0 * 0; omega
  | k + 1 => by
    have ih := var_pos fs k
    have h := dev_pos fs (fs.getD k 0) k
    have e : ((k + 1 : Nat) : Int) * sqL fs (k + 1) - sumL fs (k + 1) * sumL fs (k + 1) = ((k : Int) * sqL fs k - sumL fs k * sumL fs k) + (sqL fs k + (k : Int) * (fs.getD k 0 * fs.getD k 0) - 2 * fs.getD k 0 * sumL fs k) := by
      rw [sqL, sumL, show ((k + 1 : Nat) : Int) = (k : Int) + 1 from rfl]
      grind
    rw [e]; omega
theorem spr_bd (ds : List (List Int)) (h6 : ds.length ≤ 6) (hd : ∀ k, k < ds.length → dieB (ds.getD k []) = true) (j : Nat) (hj : j ≤ ds.length) : (0 ≤ sprP ds j ∧ sprP ds j ≤ 128391846454886400) ∧ 1 ≤ sprQ ds j ∧ sprQ ds j ≤ 8916100448256 := by
  obtain ⟨⟨a1, a2⟩, ⟨b1, b2⟩, c1, c2⟩ := mean_bd ds h6 hd j hj
  have q1 := Int.mul_le_mul c1 c1 (by omega) (by omega)
  have q2 := Int.mul_le_mul c2 c2 (by omega) (by omega)
  have p2 := Int.mul_le_mul c2 b2 b1 (by omega)
  have p3 := sq_nonneg5 (mean1 ds j)
  have p0 : ∀ k, k ≤ ds.length → 0 ≤ sprP ds k := fun k => by
    induction k with
    | zero => intro _; show 0 ≤ (1 : Int) * 0 - 0 * 0; omega
    | succ k ih =>
      intro hk
      rw [sprP_step ds k (hd k (by omega))]
      have v := var_pos (ds.getD k []) (ds.getD k []).length
      have m1 := Int.mul_nonneg (sq_nonneg5 ((ds.getD k []).length : Int)) (ih (by omega))
      have m2 := Int.mul_nonneg (sq_nonneg5 (allW ds k)) v
      unfold sprQ varF
      omega
  have := p0 j hj
  unfold sprP sprQ at *
  omega
theorem spr_zero (ds : List (List Int)) : sprP ds 0 = 0 ∧ sprQ ds 0 = 1 := ⟨rfl, rfl⟩
def sprX (ds : List (List Int)) (j : Nat) : Int := sprP ds j / gcdI (sprP ds j) (sprQ ds j)
def sprY (ds : List (List Int)) (j : Nat) : Int := sprQ ds j / gcdI (sprP ds j) (sprQ ds j)
theorem spr_eq (x y P Q n v : Int) (h : x * Q = P * y) : (x * n * n + v * y) * ((n * n) * Q) = ((n * n) * P + Q * v) * (y * n * n) := by
  have : (x * n * n + v * y) * ((n * n) * Q) = (n * n) * (n * n) * (x * Q) + v * y * (n * n) * Q := by grind
  rw [this, h]
  grind
/-- one step of the model's spread -/
theorem spr_next (ds : List (List Int)) (h6 : ds.length ≤ 6) (hd : ∀ k, k < ds.length → dieB (ds.getD k []) = true) (j : Nat) (hj : j < ds.length) (L F S : Int) (hL : L = ((ds.getD j []).length : Int)) (hF : F = sumL (ds.getD j []) (ds.getD j []).length) (hS : S = sqL (ds.getD j []) (ds.getD j []).length) :
    ((0 ≤ sprX ds j * L ∧ sprX ds j * L ≤ 128391846454886400) ∧ (0 ≤ sprX ds j * L * L ∧ sprX ds j * L * L ≤ 128391846454886400)) ∧ (0 ≤ L * S - F * F ∧ (0 ≤ (L * S - F * F) * sprY ds j ∧ (L * S - F * F) * sprY ds j ≤ 128391846454886400)) ∧ (0 ≤ sprX ds j * L * L + (L * S - F * F) * sprY ds j ∧ sprX ds j * L * L + (L * S - F * F) * sprY ds j ≤ 128391846454886400) ∧ ((0 ≤ sprY ds j * L ∧ sprY ds j * L ≤ 8916100448256) ∧ (1 ≤ sprY ds j * L * L ∧ sprY ds j * L * L ≤ 8916100448256)) ∧
    (sprX ds j * L * L + (L * S - F * F) * sprY ds j) / gcdI (sprX ds j * L * L + (L * S - F * F) * sprY ds j) (sprY ds j * L * L) = sprX ds (j + 1) ∧ (sprY ds j * L * L) / gcdI (sprX ds j * L * L + (L * S - F * F) * sprY ds j) (sprY ds j * L * L) = sprY ds (j + 1) := by
  obtain ⟨l1, l12, -, -⟩ := dieB_at (hd j hj)
  obtain ⟨⟨p0, -⟩, q0, -⟩ := spr_bd ds h6 hd j (by omega)
  obtain ⟨⟨p0', p1'⟩, q0', q1'⟩ := spr_bd ds h6 hd (j + 1) (by omega)
  have eP := sprP_step ds j (hd j hj)
  have eQ := sprQ_step ds j (hd j hj)
  have hv : 0 ≤ varF (ds.getD j []) := var_pos _ _
  have eV : varF (ds.getD j []) = L * S - F * F := by rw [hL, hS, hF]; rfl
  rw [eV] at eP hv
  rw [← hL] at eP eQ
  have hL1 : 1 ≤ L := by omega
  obtain ⟨cx, x0, y1, xp, yq⟩ := frac_cross (sprP ds j) (sprQ ds j) p0 q0
  have sX : sprX ds (j + 1) = sprP ds (j + 1) / gcdI (sprP ds (j + 1)) (sprQ ds (j + 1)) := rfl
  have sY : sprY ds (j + 1) = sprQ ds (j + 1) / gcdI (sprP ds (j + 1)) (sprQ ds (j + 1)) := rfl
  rw [sX, sY]
  have ex : sprP ds j / gcdI (sprP ds j) (sprQ ds j) = sprX ds j := rfl
  have ey : sprQ ds j / gcdI (sprP ds j) (sprQ ds j) = sprY ds j := rfl
  rw [ex] at cx x0 xp
  rw [ey] at cx y1 yq
  clear ex ey sX sY hd hL hF hS eV
  generalize sprX ds j = X at *
  generalize sprY ds j = Y at *
  generalize L * S - F * F = V at *
  generalize sprP ds j = P at *
  generalize sprQ ds j = Q at *
  have hLL := Int.mul_le_mul hL1 hL1 (by omega) (by omega)
  have a1 := Int.mul_le_mul_of_nonneg_left xp (show 0 ≤ L * L by omega)
  have a0 := Int.mul_nonneg x0 (show 0 ≤ L by omega)
  have a2 : X * L ≤ X * L * L := by have := Int.mul_le_mul_of_nonneg_left hL1 a0; omega
  have a3 : X * L * L = (L * L) * X := by rw [Int.mul_assoc, Int.mul_comm]
  have b0 := Int.mul_nonneg hv (show 0 ≤ Y by omega)
  have b1 := Int.mul_le_mul_of_nonneg_left yq hv
  have b2 := Int.mul_comm V Q
  have b3 := Int.mul_nonneg hv (show 0 ≤ Q by omega)
  have a4 := Int.mul_nonneg (show 0 ≤ L * L by omega) p0
  have d0 := Int.mul_le_mul y1 hL1 (by omega) (by omega)
  have d1 : Y * L ≤ Y * L * L := by have := Int.mul_le_mul_of_nonneg_left hL1 (show 0 ≤ Y * L by omega); omega
  have d2 : Y * L * L = (L * L) * Y := by rw [Int.mul_assoc, Int.mul_comm]
  have d3 := Int.mul_le_mul_of_nonneg_left yq (show 0 ≤ L * L by omega)
  have hs := fracI_same (X * L * L + V * Y) (Y * L * L) (sprP ds (j + 1)) (sprQ ds (j + 1)) (by omega) (by omega) p0' q0' (by rw [eP, eQ]; exact spr_eq X Y P Q L V cx)
  rw [hs.1, hs.2]
  refine ⟨⟨⟨a0, by omega⟩, by omega, by omega⟩, ⟨hv, b0, by omega⟩, ⟨by omega, by omega⟩, ⟨⟨by omega, by omega⟩, by omega, by omega⟩, rfl, rfl⟩
end Go.Proofs.Ytodmaomngpnboaa
