/- Operations on bounded numbers told by the function itself; comparisons of numbers that are not below zero; halves and doubles of numbers. Imports nothing of the translation. -/
import Derived.Test.YtfihnnhgegdjkaaFn
set_option linter.unusedVariables false
namespace Go.Proofs.Ytfihnnhgegdjkaa
namespace Fl
open Ieee

/-- the rung of a power of two -/
def pb (j : Int) : Nat := (1023 + j).toNat * 4503599627370496
theorem pb_lt {j : Int} (h : j < 1024) : pb j < FloatKind.f64.format.infRung := by
  rw [infRung64]; unfold pb; omega

theorem FopR.self (op : BinOp) (k : FloatKind) {x y v : Nat} (h : floatBits op k x y = some v) : FopR op k x y v := .inl h
theorem mulf {k : FloatKind} {x y A C N : Nat} (hx : Bd k x A) (hy : Bd k y C) (hN : mulB k A C ≤ N) (hi : N < k.format.infRung) : floatBits .mul k x y = some (fop .mul k x y) ∧ Bd k (fop .mul k x y) N := by
  have he : ∃ v, floatBits .mul k x y = some v := by
    obtain ⟨s, m, u, hm, _⟩ := hx.read
    obtain ⟨t, n, v, hn, _⟩ := hy.read
    exact ⟨_, by show k.format.mul x y = _; unfold Format.mul; rw [hm, hn]; rfl⟩
  obtain ⟨v, hv⟩ := he
  obtain ⟨e, hb⟩ := mul_bd hx hy (FopR.self _ _ hv) (Nat.lt_of_le_of_lt hN hi)
  rw [e] at hb
  exact ⟨by rw [fop_of_rel hv]; exact hv, hb.mono hN hi⟩
theorem addf {k : FloatKind} {x y A C N : Nat} (hx : Bd k x A) (hy : Bd k y C) (hN : addB k A C ≤ N) (hi : N < k.format.infRung) : floatBits .add k x y = some (fop .add k x y) ∧ Bd k (fop .add k x y) N := by
  have he : ∃ v, floatBits .add k x y = some v := by
    obtain ⟨s, m, u, hm, _⟩ := hx.read
    obtain ⟨t, n, v, hn, _⟩ := hy.read
    exact ⟨_, by show k.format.add x y = _; unfold Format.add; rw [hm, hn]; rfl⟩
  obtain ⟨v, hv⟩ := he
  obtain ⟨e, hb⟩ := add_bd hx hy (FopR.self _ _ hv) (Nat.lt_of_le_of_lt hN hi)
  rw [e] at hb
  exact ⟨by rw [fop_of_rel hv]; exact hv, hb.mono hN hi⟩
theorem subf {k : FloatKind} {x y A C N : Nat} (hx : Bd k x A) (hy : Bd k y C) (hN : addB k A C ≤ N) (hi : N < k.format.infRung) : floatBits .sub k x y = some (fop .sub k x y) ∧ Bd k (fop .sub k x y) N := by
  have he : ∃ v, floatBits .sub k x y = some v := by
    obtain ⟨s, m, u, hm, _⟩ := hx.read
    obtain ⟨t, n, v, hn, _⟩ := hy.read
    exact ⟨_, by show k.format.sub x y = _; unfold Format.sub; rw [hm, hn]; rfl⟩
  obtain ⟨v, hv⟩ := he
  obtain ⟨e, hb⟩ := sub_bd hx hy (FopR.self _ _ hv) (Nat.lt_of_le_of_lt hN hi)
  rw [e] at hb
  exact ⟨by rw [fop_of_rel hv]; exact hv, hb.mono hN hi⟩
theorem read_ne_zero {k : FloatKind} {y D : Nat} (hy : Bd k y D) (h0 : 0 < y % k.format.signWeight) : ∃ t n j, k.format.read y = .number t n j ∧ n ≠ 0 := by
  obtain ⟨t, n, v, hn, hv, _⟩ := hy.read
  refine ⟨_, _, _, hn, fun e => ?_⟩
  subst e
  have h1 : val k.format (y % k.format.signWeight) = 0 := by rw [← hv, Nat.zero_shiftLeft]
  have h2 := val_lt k.format h0
  rw [val_zero] at h2
  omega
/-- a quotient by a number whose absolute value is at least 1 -/
theorem divf {x y A D N : Nat} (hx : Bd .f64 x A) (hy : Bd .f64 y D) (h1 : 4607182418800017408 ≤ y % 9223372036854775808) (hN : dblB .f64 A ≤ N) (hi : N < FloatKind.f64.format.infRung) : floatBits .quo .f64 x y = some (fop .quo .f64 x y) ∧ Bd .f64 (fop .quo .f64 x y) N := by
  have he : ∃ v, floatBits .quo .f64 x y = some v := by
    obtain ⟨s, m, u, hm, _⟩ := hx.read
    obtain ⟨t, n, j, hn, h0⟩ := read_ne_zero hy (by rw [signWeight64]; omega)
    exact ⟨_, by show FloatKind.f64.format.div x y = _; unfold Format.div; rw [hm, hn]; unfold Datum.quotient; dsimp only; rw [if_neg h0]; rfl⟩
  obtain ⟨v, hv⟩ := he
  have hC : val FloatKind.f64.format (x % FloatKind.f64.format.signWeight) <<< (-FloatKind.f64.format.leastPlace).toNat ≤ val FloatKind.f64.format (y % FloatKind.f64.format.signWeight) * val FloatKind.f64.format A := by
    rw [least64, show (-(-1074 : Int)).toNat = 1074 from rfl, Nat.shiftLeft_eq, ← val64_1, Nat.mul_comm]
    refine Nat.mul_le_mul (val_le _ ?_) (val_le _ hx.2.1)
    rw [signWeight64]; exact h1
  obtain ⟨e, hb⟩ := div_bd hx hy (by rw [signWeight64]; omega) (by rw [least64]; decide) hC (FopR.self _ _ hv) (Nat.lt_of_le_of_lt hN hi)
  rw [e] at hb
  exact ⟨by rw [fop_of_rel hv]; exact hv, hb.mono hN hi⟩

theorem run_ok {P : Program} {op : BinOp} {k : FloatKind} {x y r : Nat} (h : floatBits op k x y = some r) : ∀ (t : TypeId) (w : World), (binOp op t (.float k x) (.float k y)).run P w = .ok (.float k r) w :=
  fun t w => run_float_arith w op t k x y r h

/-! ### comparisons of numbers with the sign off -/
theorem geq_pos {x c : Nat} (hx : x ≤ 9218868437227405312) (hc : c ≤ 9218868437227405312) : (FloatKind.f64.format.order x c == some .gt || FloatKind.f64.format.order x c == some .eq) = decide (c ≤ x) := by
  rw [order_key .f64 (wf_of64 (by omega)) (wf_of64 (by omega)) (by rw [isNan64]; exact decide_eq_false (by omega)) (by rw [isNan64]; exact decide_eq_false (by omega)),
    key_abs .f64 (by rw [signWeight64]; omega), key_abs .f64 (by rw [signWeight64]; omega), some_beq, some_beq, compare_gt, compare_eq, Bool.eq_iff_iff]
  simp
  omega
theorem lss_pos {x c : Nat} (hx : x ≤ 9218868437227405312) (hc : c ≤ 9218868437227405312) : (FloatKind.f64.format.order x c == some .lt) = decide (x < c) := by
  rw [order_key .f64 (wf_of64 (by omega)) (wf_of64 (by omega)) (by rw [isNan64]; exact decide_eq_false (by omega)) (by rw [isNan64]; exact decide_eq_false (by omega)),
    key_abs .f64 (by rw [signWeight64]; omega), key_abs .f64 (by rw [signWeight64]; omega), some_beq, compare_lt, Bool.eq_iff_iff]
  simp

theorem eql_pos {x c : Nat} (hx : x ≤ 9218868437227405312) (hc : c ≤ 9218868437227405312) : (FloatKind.f64.format.order x c == some .eq) = decide (x = c) := by
  rw [order_key .f64 (wf_of64 (by omega)) (wf_of64 (by omega)) (by rw [isNan64]; exact decide_eq_false (by omega)) (by rw [isNan64]; exact decide_eq_false (by omega)),
    key_abs .f64 (by rw [signWeight64]; omega), key_abs .f64 (by rw [signWeight64]; omega), some_beq, compare_eq, Bool.eq_iff_iff]
  simp
  omega
theorem gtr_pos {x c : Nat} (hx : x ≤ 9218868437227405312) (hc : c ≤ 9218868437227405312) : (FloatKind.f64.format.order x c == some .gt) = decide (c < x) := by
  rw [order_key .f64 (wf_of64 (by omega)) (wf_of64 (by omega)) (by rw [isNan64]; exact decide_eq_false (by omega)) (by rw [isNan64]; exact decide_eq_false (by omega)),
    key_abs .f64 (by rw [signWeight64]; omega), key_abs .f64 (by rw [signWeight64]; omega), some_beq, compare_gt, Bool.eq_iff_iff]
  simp
/-- below zero, as the sign tells it -/
theorem lss_neg {x : Nat} (h1 : 9223372036854775808 < x) (h2 : x ≤ 18442240474082181120) : (FloatKind.f64.format.order x 0 == some .lt) = true := by
  rw [order_key .f64 (wf_of64 (by omega)) (wf_of64 (by omega)) (by rw [isNan64]; exact decide_eq_false (by omega)) (by rw [isNan64]; exact decide_eq_false (by omega)), show key .f64 0 = 0 from by decide +kernel, some_beq, compare_lt]
  refine decide_eq_true ?_
  unfold key sg
  rw [signWeight64, decide_eq_true (by omega), if_pos rfl]
  omega

/-! ### halves and doubles -/
theorem read_pos {r : Nat} (h1 : 4503599627370496 ≤ r) (h2 : r < 9218868437227405312) : double.read r = .number false (4503599627370496 + r % 4503599627370496) (-1074 + ((r / 4503599627370496 - 1 : Nat) : Int)) := by
  unfold Format.read
  dsimp only
  rw [show double.signWeight = 9223372036854775808 from by decide +kernel, show double.binade = 4503599627370496 from by decide +kernel, show double.infRung = 9218868437227405312 from by decide +kernel,
    show double.leastPlace = -1074 from by decide +kernel, Nat.mod_eq_of_lt (by omega), if_neg (by omega), if_pos h2, show r / 9223372036854775808 % 2 = 0 by omega]
  rfl
theorem rg_norm {r : Nat} (h1 : 4503599627370496 ≤ r) (h2 : r < 9218868437227405312) : rg double (4503599627370496 + r % 4503599627370496) (-1074 + ((r / 4503599627370496 - 1 : Nat) : Int)) = r := by
  have h := rg_val double (r := r) (by rw [show double.infRung = 9218868437227405312 from by decide +kernel]; exact h2)
  unfold val at h
  rw [show double.binade = 4503599627370496 from by decide +kernel, if_neg (by omega), ← Nat.shiftLeft_eq] at h
  have e : double.leastPlace = (-1074 + ((r / 4503599627370496 - 1 : Nat) : Int)) - ((r / 4503599627370496 - 1 : Nat) : Int) := by
    rw [show double.leastPlace = -1074 from by decide +kernel]; omega
  rw [e, rg_shift] at h
  exact h

theorem write_rg64 (s : Bool) (m : Nat) (e : Int) : double.write (.number s m e) = double.word s (rg double m e) := nearest_sign double s m e
theorem word_false (f : Format) (r : Nat) : f.word false r = r := rfl
theorem half64 {x : Nat} (h1 : 9007199254740992 ≤ x) (h2 : x < 9218868437227405312) : floatBits .quo .f64 x 4611686018427387904 = some (x - 4503599627370496) := by
  show double.div x 4611686018427387904 = _
  unfold Format.div
  rw [read_pos (by omega) h2, show double.read 4611686018427387904 = .number false 4503599627370496 (-51) from by decide +kernel]
  have hm : x % 4503599627370496 < 4503599627370496 := Nat.mod_lt _ (by decide)
  have hlog : (4503599627370496 + x % 4503599627370496).log2 = 52 := by
    apply Nat.le_antisymm
    · have := (Nat.log2_lt (n := 4503599627370496 + x % 4503599627370496) (k := 53) (by omega)).2 (by omega)
      omega
    · exact (Nat.le_log2 (by omega)).2 (by omega)
  unfold Datum.quotient
  dsimp only
  rw [if_neg (by decide), show Nat.log2 4503599627370496 = 52 from by decide +kernel, hlog, show double.fractionBits + 2 + 52 - 52 = 54 from rfl]
  have e1 : (4503599627370496 + x % 4503599627370496) <<< 54 / 4503599627370496 = (4503599627370496 + x % 4503599627370496) * 4 := by
    rw [Nat.shiftLeft_eq, show (2 ^ 54 : Nat) = 4 * 4503599627370496 from rfl, ← Nat.mul_assoc, Nat.mul_div_cancel _ (by decide)]
  have e2 : (4503599627370496 + x % 4503599627370496) <<< 54 % 4503599627370496 = 0 := by
    rw [Nat.shiftLeft_eq, show (2 ^ 54 : Nat) = 4 * 4503599627370496 from rfl, ← Nat.mul_assoc, Nat.mul_mod_left]
  rw [e1, e2]
  rw [Option.map_some, write_rg64, show (false ^^ false) = false from rfl, word_false]
  refine congrArg some ?_
  have h3 := rg_norm (r := x - 4503599627370496) (by omega) (by omega)
  rw [show (x - 4503599627370496) % 4503599627370496 = x % 4503599627370496 by omega, show (x - 4503599627370496) / 4503599627370496 - 1 = x / 4503599627370496 - 2 by omega] at h3
  have hq : 2 ≤ x / 4503599627370496 := by omega
  have e3 : 2 * ((4503599627370496 + x % 4503599627370496) * 4) + ((0 : Nat) != 0).toNat = (4503599627370496 + x % 4503599627370496) <<< 3 := by
    rw [Nat.shiftLeft_eq, show ((0 : Nat) != 0).toNat = 0 from rfl, show (2 ^ 3 : Nat) = 8 from rfl]; omega
  rw [e3, ← h3, ← rg_shift double (4503599627370496 + x % 4503599627370496) 3]
  exact congrArg (rg double _) (by omega)

theorem twice64 {x : Nat} (h1 : 4503599627370496 ≤ x) (h2 : x < 9214364837600034816) : floatBits .mul .f64 x 4611686018427387904 = some (x + 4503599627370496) := by
  show double.mul x 4611686018427387904 = _
  unfold Format.mul
  rw [read_pos (by omega) (by omega), show double.read 4611686018427387904 = .number false 4503599627370496 (-51) from by decide +kernel]
  unfold Datum.product
  dsimp only
  rw [Option.map_some, write_rg64, show (false ^^ false) = false from rfl, word_false]
  refine congrArg some ?_
  have h3 := rg_norm (r := x + 4503599627370496) (by omega) (by omega)
  rw [show (x + 4503599627370496) % 4503599627370496 = x % 4503599627370496 by omega, show (x + 4503599627370496) / 4503599627370496 - 1 = x / 4503599627370496 by omega] at h3
  have e3 : (4503599627370496 + x % 4503599627370496) * 4503599627370496 = (4503599627370496 + x % 4503599627370496) <<< 52 := by
    rw [Nat.shiftLeft_eq, show (2 ^ 52 : Nat) = 4503599627370496 from by decide +kernel]
  rw [e3, ← h3, ← rg_shift double (4503599627370496 + x % 4503599627370496) 52]
  exact congrArg (rg double _) (by omega)
theorem half64' {x : Nat} (h1 : 9007199254740992 ≤ x) (h2 : x < 9218868437227405312) : ∃ y, y + 4503599627370496 = x ∧ floatBits .quo .f64 x 4611686018427387904 = some y := ⟨_, by omega, half64 h1 h2⟩
theorem twice64' {x : Nat} (h1 : 4503599627370496 ≤ x) (h2 : x < 9214364837600034816) : ∃ y, y = x + 4503599627370496 ∧ floatBits .mul .f64 x 4611686018427387904 = some y := ⟨_, rfl, twice64 h1 h2⟩
end Fl
end Go.Proofs.Ytfihnnhgegdjkaa
