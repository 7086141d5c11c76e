/- Rounding is monotone: of two magnitudes the lesser is written at no greater rung. Bounds on what operations give follow. Imports nothing of the translation. -/
import Derived.Test.YtfihnnhgegdjkaaFlb
set_option linter.unusedVariables false
namespace Go.Proofs.Ytfihnnhgegdjkaa
namespace Fl
open Ieee

/-- half to even -/
def rhe (n d : Nat) : Nat := n / 2 ^ d + (decide (2 ^ d < 2 * (n % 2 ^ d)) || (2 ^ d == 2 * (n % 2 ^ d) && n / 2 ^ d % 2 == 1)).toNat
theorem cut_even (neg : Bool) (n d : Nat) : Toward.even.cut neg n d = rhe n d := by
  unfold Toward.cut rhe
  dsimp only
  rw [Nat.one_shiftLeft]
  by_cases h : d ≤ n.log2 + 2
  · rw [Nat.min_eq_left h]
  · rw [Nat.min_eq_right (by omega)]
    have h1 : n < 2 ^ (n.log2 + 1) := Nat.lt_log2_self
    have h2 : 2 ^ (n.log2 + 2) = 2 * 2 ^ (n.log2 + 1) := by rw [Nat.pow_succ, Nat.mul_comm]
    have h3 : 2 ^ (n.log2 + 2) < 2 ^ d := Nat.pow_lt_pow_right (by decide) (by omega)
    rw [Nat.div_eq_of_lt (by omega), Nat.mod_eq_of_lt (show n < 2 ^ (n.log2 + 2) by omega), Nat.div_eq_of_lt (by omega), Nat.mod_eq_of_lt (show n < 2 ^ d by omega)]
    have e1 : decide (2 ^ (n.log2 + 2) < 2 * n) = decide (2 ^ d < 2 * n) := by rw [decide_eq_false (by omega), decide_eq_false (by omega)]
    rw [e1]
    simp
theorem rhe_zero (n : Nat) : rhe n 0 = n := by unfold rhe; simp [Nat.mod_one, Nat.div_one]
theorem rhe_shift (n d a : Nat) : rhe (n <<< a) (d + a) = rhe n d := by
  unfold rhe
  rw [Nat.shiftLeft_eq, Nat.pow_add, Nat.mul_div_mul_right _ _ (Nat.two_pow_pos a), Nat.mul_mod_mul_right]
  have hp := Nat.two_pow_pos a
  have e1 : decide (2 ^ d * 2 ^ a < 2 * (n % 2 ^ d * 2 ^ a)) = decide (2 ^ d < 2 * (n % 2 ^ d)) := by
    congr 1
    rw [← Nat.mul_assoc]
    exact propext (Nat.mul_lt_mul_right hp)
  have e2 : (2 ^ d * 2 ^ a == 2 * (n % 2 ^ d * 2 ^ a)) = (2 ^ d == 2 * (n % 2 ^ d)) := by
    rw [Bool.eq_iff_iff, beq_iff_eq, beq_iff_eq, ← Nat.mul_assoc]
    exact ⟨fun h => Nat.eq_of_mul_eq_mul_right hp h, fun h => congrArg (· * 2 ^ a) h⟩
  rw [e1, e2]
theorem rhe_mono {m n : Nat} (d : Nat) (h : m ≤ n) : rhe m d ≤ rhe n d := by
  unfold rhe
  have hq : m / 2 ^ d ≤ n / 2 ^ d := Nat.div_le_div_right h
  have hm := Nat.div_add_mod m (2 ^ d)
  have hn := Nat.div_add_mod n (2 ^ d)
  have b1 : ∀ b : Bool, b.toNat ≤ 1 := fun b => by cases b <;> decide
  by_cases e : m / 2 ^ d = n / 2 ^ d
  · rw [e] at hm ⊢
    have hr : m % 2 ^ d ≤ n % 2 ^ d := by omega
    apply Nat.add_le_add_left
    generalize m % 2 ^ d = r at *
    generalize n % 2 ^ d = s at *
    generalize (n / 2 ^ d % 2 == 1) = o at *
    generalize 2 ^ d = D at *
    by_cases h1 : D < 2 * s
    · rw [decide_eq_true h1]; simp; exact b1 _
    · by_cases h2 : D = 2 * s
      · by_cases h3 : r = s
        · subst h3; exact Nat.le_refl _
        · have e1 : decide (D < 2 * r) = false := decide_eq_false (by omega)
          have e2 : (D == 2 * r) = false := beq_eq_false_iff_ne.2 (by omega)
          rw [e1, e2]; simp
      · have e1 : decide (D < 2 * r) = false := decide_eq_false (by omega)
        have e2 : (D == 2 * r) = false := beq_eq_false_iff_ne.2 (by omega)
        rw [e1, e2]; simp
  · have := b1 (decide (2 ^ d < 2 * (m % 2 ^ d)) || (2 ^ d == 2 * (m % 2 ^ d) && m / 2 ^ d % 2 == 1))
    omega
/-- what is kept has as many digits as fit, or one power more -/
theorem rhe_le {n d k : Nat} (h : n < 2 ^ (d + k)) : rhe n d ≤ 2 ^ k := by
  unfold rhe
  have hlt : n / 2 ^ d < 2 ^ k := Nat.div_lt_of_lt_mul (by rw [← Nat.pow_add]; exact h)
  have b1 : ∀ b : Bool, b.toNat ≤ 1 := fun b => by cases b <;> decide
  have := b1 (decide (2 ^ d < 2 * (n % 2 ^ d)) || (2 ^ d == 2 * (n % 2 ^ d) && n / 2 ^ d % 2 == 1))
  omega
theorem le_rhe {n d k : Nat} (h : 2 ^ (d + k) ≤ n) : 2 ^ k ≤ rhe n d := by
  unfold rhe
  have : 2 ^ k ≤ n / 2 ^ d := (Nat.le_div_iff_mul_le (Nat.two_pow_pos d)).2 (by rw [← Nat.pow_add, Nat.add_comm]; exact h)
  omega

theorem log2_shift {m : Nat} (a : Nat) (h : m ≠ 0) : (m <<< a).log2 = m.log2 + a := by
  have h1 := Nat.log2_self_le h
  have h2 := Nat.lt_log2_self (n := m)
  have hne : m <<< a ≠ 0 := by rw [Nat.shiftLeft_eq]; exact Nat.mul_ne_zero h (Nat.ne_of_gt (Nat.two_pow_pos a))
  apply Nat.le_antisymm
  · have : m <<< a < 2 ^ (m.log2 + a + 1) := by
      rw [Nat.shiftLeft_eq, show m.log2 + a + 1 = (m.log2 + 1) + a by omega, Nat.pow_add]
      exact Nat.mul_lt_mul_of_pos_right h2 (Nat.two_pow_pos a)
    have := (Nat.log2_lt hne).2 this
    omega
  · refine (Nat.le_log2 hne).2 ?_
    rw [Nat.shiftLeft_eq, Nat.pow_add]
    exact Nat.mul_le_mul_right _ h1

/-- the rung at which a magnitude is written -/
def rg (f : Format) (m : Nat) (e : Int) : Nat := f.nearest false m e
theorem rg_eq (f : Format) {m : Nat} (h : m ≠ 0) (e : Int) :
    rg f m e = min ((max (e + m.log2 - f.fractionBits) f.leastPlace - f.leastPlace).toNat * f.binade
      + rhe (m <<< (e - max (e + m.log2 - f.fractionBits) f.leastPlace).toNat) (max (e + m.log2 - f.fractionBits) f.leastPlace - e).toNat) f.infRung := by
  unfold rg Format.nearest
  dsimp only
  rw [if_neg h, cut_even]
  rfl
theorem rg_shift (f : Format) (m a : Nat) (e : Int) : rg f (m <<< a) (e - a) = rg f m e := by
  by_cases h : m = 0
  · subst h; rw [Nat.zero_shiftLeft]; unfold rg Format.nearest; rfl
  · have hne : m <<< a ≠ 0 := by rw [Nat.shiftLeft_eq]; exact Nat.mul_ne_zero h (Nat.ne_of_gt (Nat.two_pow_pos a))
    rw [rg_eq f hne, rg_eq f h, log2_shift a h, show e - (a : Int) + ((m.log2 + a : Nat) : Int) - (f.fractionBits : Int) = e + m.log2 - f.fractionBits by omega]
    generalize max (e + m.log2 - (f.fractionBits : Int)) f.leastPlace = last
    congr 2
    by_cases h1 : last ≤ e - a
    · rw [show (last - (e - (a : Int))).toNat = 0 by omega, show (last - e).toNat = 0 by omega, rhe_zero, rhe_zero, ← Nat.shiftLeft_add]
      congr 1; omega
    · by_cases h2 : last ≤ e
      · rw [show (last - e).toNat = 0 by omega, rhe_zero, show (e - (a : Int) - last).toNat = 0 by omega, Nat.shiftLeft_zero]
        have := rhe_shift (m <<< (e - last).toNat) 0 (last - (e - (a : Int))).toNat
        rw [rhe_zero, Nat.zero_add] at this
        rw [← this, ← Nat.shiftLeft_add]
        congr 2; omega
      · rw [show (e - (a : Int) - last).toNat = 0 by omega, show (e - last).toNat = 0 by omega, Nat.shiftLeft_zero, Nat.shiftLeft_zero,
          show (last - (e - (a : Int))).toNat = (last - e).toNat + a by omega, rhe_shift]

theorem rg_mono_at (f : Format) {m n : Nat} (e : Int) (h : m ≤ n) : rg f m e ≤ rg f n e := by
  by_cases h0 : m = 0
  · subst h0
    have : rg f 0 e = 0 := by unfold rg Format.nearest; rfl
    omega
  · have hn : n ≠ 0 := by omega
    rw [rg_eq f h0, rg_eq f hn]
    have hl : m.log2 ≤ n.log2 := by
      have := Nat.log2_self_le h0
      exact (Nat.le_log2 hn).2 (by omega)
    have a1 := Nat.lt_log2_self (n := m)
    have a2 := Nat.log2_self_le hn
    have hB : f.binade = 2 ^ f.fractionBits := rfl
    generalize f.fractionBits = F at *
    generalize f.leastPlace = lp at *
    generalize hp : max (e + (m.log2 : Int) - (F : Int)) lp = p
    generalize hq : max (e + (n.log2 : Int) - (F : Int)) lp = q
    have hpq : p ≤ q := by omega
    refine Nat.le_min.2 ⟨Nat.le_trans (Nat.min_le_left _ _) ?_, Nat.min_le_right _ _⟩
    by_cases hc : p = q
    · subst hc
      apply Nat.add_le_add_left
      apply rhe_mono
      rw [Nat.shiftLeft_eq, Nat.shiftLeft_eq]
      exact Nat.mul_le_mul_right _ h
    · have hq2 : q = e + (n.log2 : Int) - (F : Int) := by omega
      -- m is written below the next binade, n not below its own
      have k1 : rhe (m <<< (e - p).toNat) (p - e).toNat ≤ 2 ^ (F + 1) := by
        apply rhe_le
        by_cases h1 : p ≤ e
        · rw [show (p - e).toNat = 0 by omega, Nat.zero_add, Nat.shiftLeft_eq]
          calc m * 2 ^ (e - p).toNat < 2 ^ (m.log2 + 1) * 2 ^ (e - p).toNat := Nat.mul_lt_mul_of_pos_right a1 (Nat.two_pow_pos _)
            _ = 2 ^ (m.log2 + 1 + (e - p).toNat) := by rw [← Nat.pow_add]
            _ ≤ 2 ^ (F + 1) := Nat.pow_le_pow_right (by decide) (by omega)
        · rw [show (e - p).toNat = 0 by omega, Nat.shiftLeft_zero]
          exact Nat.lt_of_lt_of_le a1 (Nat.pow_le_pow_right (by decide) (by omega))
      have k2 : 2 ^ F ≤ rhe (n <<< (e - q).toNat) (q - e).toNat := by
        apply le_rhe
        by_cases h1 : q ≤ e
        · rw [show (q - e).toNat = 0 by omega, Nat.zero_add, Nat.shiftLeft_eq]
          calc 2 ^ F ≤ 2 ^ (n.log2 + (e - q).toNat) := Nat.pow_le_pow_right (by decide) (by omega)
            _ = 2 ^ n.log2 * 2 ^ (e - q).toNat := by rw [← Nat.pow_add]
            _ ≤ _ := Nat.mul_le_mul_right _ a2
        · rw [show (e - q).toNat = 0 by omega, Nat.shiftLeft_zero]
          exact Nat.le_trans (Nat.pow_le_pow_right (by decide) (by omega)) a2
      have k3 : (p - lp).toNat + 1 ≤ (q - lp).toNat := by omega
      have k4 : ((p - lp).toNat + 1) * f.binade ≤ (q - lp).toNat * f.binade := Nat.mul_le_mul_right _ k3
      rw [Nat.add_mul, Nat.one_mul] at k4
      rw [Nat.pow_succ] at k1
      omega

/-- of two magnitudes the lesser is written at no greater rung -/
theorem rg_mono (f : Format) {m n : Nat} {e g c : Int} (he : c ≤ e) (hg : c ≤ g) (h : m <<< (e - c).toNat ≤ n <<< (g - c).toNat) : rg f m e ≤ rg f n g := by
  rw [← rg_shift f m (e - c).toNat e, ← rg_shift f n (g - c).toNat g, show e - ((e - c).toNat : Int) = c by omega, show g - ((g - c).toNat : Int) = c by omega]
  exact rg_mono_at f c h

/-! ### bounds of what operations give -/
theorem fracs_pos (f : Format) : f.binade = 2 ^ f.fractionBits := rfl
theorem rg_val (f : Format) {r : Nat} (h : r < f.infRung) : rg f (val f r) f.leastPlace = r := by
  have hB := fracs_pos f
  by_cases h0 : r = 0
  · subst h0; rw [val_zero]; unfold rg Format.nearest; rfl
  · unfold val
    by_cases hb : r < f.binade
    · rw [if_pos hb, rg_eq f h0]
      have hl : r.log2 < f.fractionBits := (Nat.log2_lt h0).2 (by rw [← hB]; exact hb)
      have hm : max (f.leastPlace + (r.log2 : Int) - (f.fractionBits : Int)) f.leastPlace = f.leastPlace := by omega
      rw [hm, show (f.leastPlace - f.leastPlace).toNat = 0 by omega, rhe_zero, Nat.zero_mul, Nat.zero_add, Nat.shiftLeft_zero, Nat.min_eq_left (by omega)]
    · rw [if_neg hb]
      have hp := binade_pos f
      have hdm := Nat.div_add_mod r f.binade
      have hlt := Nat.mod_lt r hp
      have hq : 1 ≤ r / f.binade := (Nat.le_div_iff_mul_le hp).2 (by omega)
      have hmul : f.binade * (r / f.binade) = (r / f.binade - 1) * f.binade + f.binade := by
        rw [Nat.mul_comm, ← Nat.succ_mul]; congr 1; omega
      generalize r / f.binade = q at *
      generalize r % f.binade = t at *
      have e1 : f.leastPlace = (f.leastPlace + ((q - 1 : Nat) : Int)) - ((q - 1 : Nat) : Int) := by omega
      rw [← Nat.shiftLeft_eq, e1, rg_shift]
      have hne : f.binade + t ≠ 0 := by omega
      have hl : (f.binade + t).log2 = f.fractionBits := by
        apply Nat.le_antisymm
        · have : f.binade + t < 2 ^ (f.fractionBits + 1) := by rw [Nat.pow_succ, ← hB]; omega
          have := (Nat.log2_lt hne).2 this
          omega
        · exact (Nat.le_log2 hne).2 (by rw [← hB]; omega)
      rw [rg_eq f hne, hl]
      have hm : max (f.leastPlace + ((q - 1 : Nat) : Int) + (f.fractionBits : Int) - (f.fractionBits : Int)) f.leastPlace = f.leastPlace + ((q - 1 : Nat) : Int) := by omega
      rw [hm, show (f.leastPlace + ((q - 1 : Nat) : Int) - f.leastPlace).toNat = q - 1 by omega, show (f.leastPlace + ((q - 1 : Nat) : Int) - (f.leastPlace + ((q - 1 : Nat) : Int))).toNat = 0 by omega, rhe_zero, Nat.shiftLeft_zero,
        Nat.min_eq_left (by omega)]
      omega
theorem val_le (f : Format) {a b : Nat} (h : a ≤ b) : val f a ≤ val f b := by
  by_cases e : a = b
  · subst e; exact Nat.le_refl _
  · exact Nat.le_of_lt (val_lt f (by omega))

/-- a finite number whose rung is at most A -/
def Bd (k : FloatKind) (x A : Nat) : Prop := x < 2 * k.format.signWeight ∧ x % k.format.signWeight ≤ A ∧ A < k.format.infRung
theorem Bd.notNan {k : FloatKind} {x A : Nat} (h : Bd k x A) : isNan k x = false := by
  cases hn : isNan k x with
  | false => rfl
  | true => have := (isNan_iff k x).1 hn; have := h.2.1; have := h.2.2; omega
theorem Bd.read {k : FloatKind} {x A : Nat} (h : Bd k x A) : ∃ s m u, k.format.read x = .number s m (k.format.leastPlace + (u : Nat)) ∧ m <<< u = val k.format (x % k.format.signWeight) ∧ val k.format (x % k.format.signWeight) ≤ val k.format A ∧ s = decide (k.format.signWeight ≤ x) := by
  obtain ⟨h1, h2, h3⟩ := h
  obtain ⟨m, u, hm, hv⟩ := read_word_fin k.format (decide (k.format.signWeight ≤ x)) (r := x % k.format.signWeight) (by omega)
  rw [← word_of k h1] at hm
  exact ⟨_, m, u, hm, hv, val_le _ h2, rfl⟩
theorem Bd.mono {k : FloatKind} {x A C : Nat} (h : Bd k x A) (hc : A ≤ C) (hi : C < k.format.infRung) : Bd k x C := ⟨h.1, Nat.le_trans h.2.1 hc, hi⟩

theorem write_rg (k : FloatKind) (s : Bool) (m : Nat) (e : Int) : k.format.write (.number s m e) = k.format.word s (rg k.format m e) := nearest_sign k.format s m e
theorem word_bd {k : FloatKind} {s : Bool} {q A : Nat} (hq : q ≤ A) (hA : A < k.format.infRung) : Bd k (k.format.word s q) A := by
  have hl := k.format.infRung_lt
  have h1 : k.format.word s q % k.format.signWeight = q := by
    unfold Format.word
    split
    · rw [Nat.add_mod_left, Nat.mod_eq_of_lt (by omega)]
    · exact Nat.mod_eq_of_lt (by omega)
  refine ⟨?_, by rw [h1]; exact hq, hA⟩
  unfold Format.word
  split <;> omega

def mulB (k : FloatKind) (A C : Nat) : Nat := rg k.format (val k.format A * val k.format C) (2 * k.format.leastPlace)
def addB (k : FloatKind) (A C : Nat) : Nat := rg k.format (val k.format A + val k.format C) k.format.leastPlace
def dblB (k : FloatKind) (A : Nat) : Nat := rg k.format (2 * val k.format A) k.format.leastPlace

theorem FopR.of_some {op : BinOp} {k : FloatKind} {x y r v : Nat} (h : FopR op k x y r) (hv : floatBits op k x y = some v) : r = v ∧ fop op k x y = v := by
  refine ⟨?_, by unfold fop; rw [hv]; rfl⟩
  rcases h with h | ⟨h, _⟩
  · rw [hv] at h; exact (Option.some.inj h).symm
  · rw [hv] at h; cases h

theorem mul_bd {k : FloatKind} {x y r A C : Nat} (hx : Bd k x A) (hy : Bd k y C) (h : FopR .mul k x y r) (hA : mulB k A C < k.format.infRung) : r = fop .mul k x y ∧ Bd k r (mulB k A C) := by
  obtain ⟨s, m, u, hm, hu, hvm, _⟩ := hx.read
  obtain ⟨t, n, v, hn, hv, hvn, _⟩ := hy.read
  have he : floatBits .mul k x y = some (k.format.word (s ^^ t) (rg k.format (m * n) (k.format.leastPlace + (u : Int) + (k.format.leastPlace + (v : Int))))) := by
    show k.format.mul x y = _
    unfold Format.mul
    rw [hm, hn]
    show some (k.format.write _) = _
    rw [write_rg]
  obtain ⟨e1, e2⟩ := h.of_some he
  refine ⟨by rw [e1, e2], ?_⟩
  rw [e1]
  refine word_bd ?_ hA
  refine rg_mono k.format (c := 2 * k.format.leastPlace) (by omega) (by omega) ?_
  rw [show (k.format.leastPlace + (u : Int) + (k.format.leastPlace + (v : Int)) - 2 * k.format.leastPlace).toNat = u + v by omega, show (2 * k.format.leastPlace - 2 * k.format.leastPlace).toNat = 0 by omega, Nat.shiftLeft_zero]
  rw [show (m * n) <<< (u + v) = (m <<< u) * (n <<< v) by
    rw [Nat.shiftLeft_eq, Nat.shiftLeft_eq, Nat.shiftLeft_eq, Nat.pow_add, Nat.mul_mul_mul_comm], hu, hv]
  exact Nat.mul_le_mul hvm hvn

theorem natAbs_signed (s : Bool) (m u : Nat) : (signed s m u).natAbs = m <<< u := by
  unfold signed; cases s
  · simp only [Bool.false_eq_true, if_false]; rfl
  · simp only [if_true]; rw [Int.natAbs_neg]; rfl

theorem sum_bd {k : FloatKind} {s t : Bool} {m n u v A C : Nat} (hm : m <<< u ≤ val k.format A) (hn : n <<< v ≤ val k.format C) :
    ∃ s' q, (Datum.sum (.number s m (k.format.leastPlace + (u : Int))) (.number t n (k.format.leastPlace + (v : Int)))).map k.format.write = some (k.format.word s' q) ∧ q ≤ addB k A C := by
  unfold Datum.sum
  dsimp only
  generalize hb : min (k.format.leastPlace + (u : Int)) (k.format.leastPlace + (v : Int)) = base
  refine ⟨_, rg k.format (signed s m (k.format.leastPlace + (u : Int) - base).toNat + signed t n (k.format.leastPlace + (v : Int) - base).toNat).natAbs base, by rw [Option.map_some, write_rg], ?_⟩
  · refine rg_mono k.format (c := k.format.leastPlace) (by omega) (by omega) ?_
    rw [show (k.format.leastPlace - k.format.leastPlace).toNat = 0 by omega, Nat.shiftLeft_zero]
    have h1 := Int.natAbs_add_le (signed s m (k.format.leastPlace + (u : Int) - base).toNat) (signed t n (k.format.leastPlace + (v : Int) - base).toNat)
    rw [natAbs_signed, natAbs_signed] at h1
    refine Nat.le_trans (Nat.mul_le_mul_right (2 ^ (base - k.format.leastPlace).toNat) h1 |> fun x => by rw [Nat.shiftLeft_eq]; exact x) ?_
    rw [Nat.add_mul, ← Nat.shiftLeft_eq, ← Nat.shiftLeft_eq, ← Nat.shiftLeft_add, ← Nat.shiftLeft_add,
      show (k.format.leastPlace + (u : Int) - base).toNat + (base - k.format.leastPlace).toNat = u by omega, show (k.format.leastPlace + (v : Int) - base).toNat + (base - k.format.leastPlace).toNat = v by omega]
    exact Nat.add_le_add hm hn

theorem add_bd {k : FloatKind} {x y r A C : Nat} (hx : Bd k x A) (hy : Bd k y C) (h : FopR .add k x y r) (hA : addB k A C < k.format.infRung) : r = fop .add k x y ∧ Bd k r (addB k A C) := by
  obtain ⟨s, m, u, hm, hu, hvm, _⟩ := hx.read
  obtain ⟨t, n, v, hn, hv, hvn, _⟩ := hy.read
  obtain ⟨s', q, he, hq⟩ := sum_bd (k := k) (s := s) (t := t) (m := m) (n := n) (u := u) (v := v) (A := A) (C := C) (by rw [hu]; exact hvm) (by rw [hv]; exact hvn)
  have he' : floatBits .add k x y = some (k.format.word s' q) := by
    show k.format.add x y = _
    unfold Format.add
    rw [hm, hn]
    exact he
  obtain ⟨e1, e2⟩ := h.of_some he'
  exact ⟨by rw [e1, e2], by rw [e1]; exact word_bd hq hA⟩
theorem sub_bd {k : FloatKind} {x y r A C : Nat} (hx : Bd k x A) (hy : Bd k y C) (h : FopR .sub k x y r) (hA : addB k A C < k.format.infRung) : r = fop .sub k x y ∧ Bd k r (addB k A C) := by
  obtain ⟨s, m, u, hm, hu, hvm, _⟩ := hx.read
  obtain ⟨t, n, v, hn, hv, hvn, _⟩ := hy.read
  obtain ⟨s', q, he, hq⟩ := sum_bd (k := k) (s := s) (t := !t) (m := m) (n := n) (u := u) (v := v) (A := A) (C := C) (by rw [hu]; exact hvm) (by rw [hv]; exact hvn)
  have he' : floatBits .sub k x y = some (k.format.word s' q) := by
    show k.format.sub x y = _
    unfold Format.sub
    rw [hm, hn]
    exact he
  obtain ⟨e1, e2⟩ := h.of_some he'
  exact ⟨by rw [e1, e2], by rw [e1]; exact word_bd hq hA⟩

/-- a quotient that is at most as great as C tells: not above the double -/
theorem div_bd {k : FloatKind} {x y r A D C : Nat} (hx : Bd k x A) (hy : Bd k y D) (h0 : 0 < y % k.format.signWeight) (hl : k.format.leastPlace ≤ 0)
    (hC : val k.format (x % k.format.signWeight) <<< (-k.format.leastPlace).toNat ≤ val k.format (y % k.format.signWeight) * val k.format C)
    (h : FopR .quo k x y r) (hA : dblB k C < k.format.infRung) : r = fop .quo k x y ∧ Bd k r (dblB k C) := by
  obtain ⟨s, m, u, hm, hu, hvm, _⟩ := hx.read
  obtain ⟨t, n, v, hn, hv, hvn, _⟩ := hy.read
  have hn0 : n ≠ 0 := by
    intro e
    subst e
    have : val k.format (y % k.format.signWeight) = 0 := by rw [← hv, Nat.zero_shiftLeft]
    have h2 := val_lt k.format h0
    rw [val_zero] at h2
    omega
  have he : ∃ q, floatBits .quo k x y = some (k.format.word (s ^^ t) q) ∧ q ≤ dblB k C := by
    show ∃ q, k.format.div x y = some (k.format.word (s ^^ t) q) ∧ _
    unfold Format.div
    rw [hm, hn]
    unfold Datum.quotient
    dsimp only
    rw [if_neg hn0]
    generalize hM : k.format.fractionBits + 2 + n.log2 - m.log2 = more
    refine ⟨_, by rw [Option.map_some, write_rg], ?_⟩
    by_cases hm0 : m = 0
    · subst hm0
      rw [Nat.zero_shiftLeft, Nat.zero_div, Nat.zero_mod]
      have : rg k.format (2 * 0 + ((0 : Nat) != 0).toNat) (k.format.leastPlace + (u : Int) - (k.format.leastPlace + (v : Int)) - (more : Int) - 1) = 0 := by unfold rg Format.nearest; rfl
      omega
    · have hb1 : (m <<< more % n != 0).toNat ≤ 1 := by cases (m <<< more % n != 0) <;> decide
      have hge : 1 ≤ m <<< more / n := by
        refine (Nat.le_div_iff_mul_le (Nat.pos_of_ne_zero hn0)).2 ?_
        rw [Nat.one_mul, Nat.shiftLeft_eq]
        have h1 := Nat.lt_log2_self (n := n)
        have h2 := Nat.log2_self_le hm0
        have h3 : 2 ^ (n.log2 + 1) ≤ 2 ^ m.log2 * 2 ^ more := by rw [← Nat.pow_add]; exact Nat.pow_le_pow_right (by decide) (by omega)
        have h4 : 2 ^ m.log2 * 2 ^ more ≤ m * 2 ^ more := Nat.mul_le_mul_right _ h2
        omega
      have hQ : (2 * (m <<< more / n) + (m <<< more % n != 0).toNat) * n ≤ 3 * (m <<< more) := by
        have h1 : m <<< more / n * n ≤ m <<< more := Nat.div_mul_le_self _ _
        have h2 : (2 * (m <<< more / n) + (m <<< more % n != 0).toNat) * n ≤ (3 * (m <<< more / n)) * n := Nat.mul_le_mul_right _ (by omega)
        rw [Nat.mul_assoc] at h2
        omega
      generalize 2 * (m <<< more / n) + (m <<< more % n != 0).toNat = Q at hQ ⊢
      generalize hL : (-k.format.leastPlace).toNat = L at *
      have hlp : k.format.leastPlace = -(L : Int) := by omega
      rw [← hu, ← hv] at hC
      unfold dblB
      rw [hlp]
      refine rg_mono k.format (c := -(L : Int) - (v : Int) - (more : Int) - 1) (by omega) (by omega) ?_
      rw [show (-(L : Int) + (u : Int) - (-(L : Int) + (v : Int)) - (more : Int) - 1 - (-(L : Int) - (v : Int) - (more : Int) - 1)).toNat = u + L by omega,
        show (-(L : Int) - (-(L : Int) - (v : Int) - (more : Int) - 1)).toNat = v + more + 1 by omega]
      -- Q n ≤ 3 m 2^more and m 2^u 2^L ≤ n 2^v C
      simp only [Nat.shiftLeft_eq] at *
      refine Nat.le_of_mul_le_mul_right (c := n) ?_ (Nat.pos_of_ne_zero hn0)
      calc Q * 2 ^ (u + L) * n = (Q * n) * 2 ^ (u + L) := by rw [Nat.mul_right_comm]
        _ ≤ (3 * (m * 2 ^ more)) * 2 ^ (u + L) := Nat.mul_le_mul_right _ hQ
        _ = 3 * 2 ^ more * (m * 2 ^ u * 2 ^ L) := by rw [Nat.pow_add]; simp only [Nat.mul_assoc, Nat.mul_comm, Nat.mul_left_comm]
        _ ≤ 3 * 2 ^ more * (n * 2 ^ v * val k.format C) := Nat.mul_le_mul_left _ hC
        _ ≤ 4 * 2 ^ more * (n * 2 ^ v * val k.format C) := Nat.mul_le_mul_right _ (Nat.mul_le_mul_right _ (by decide))
        _ = 2 * val k.format C * 2 ^ (v + more + 1) * n := by
          rw [show (4 : Nat) = 2 * 2 from rfl, Nat.pow_succ, Nat.pow_add]; simp only [Nat.mul_assoc, Nat.mul_comm, Nat.mul_left_comm]
  obtain ⟨q, he, hq⟩ := he
  obtain ⟨e1, e2⟩ := h.of_some he
  exact ⟨by rw [e1, e2], by rw [e1]; exact word_bd hq hA⟩
end Fl
end Go.Proofs.Ytfihnnhgegdjkaa
