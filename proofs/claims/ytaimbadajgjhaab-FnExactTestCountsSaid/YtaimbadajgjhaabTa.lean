/- Pure: how far counts are from those that are due: every step is finite. -/
import Derived.Test.YtaimbadajgjhaabJa
set_option linter.unusedVariables false
namespace Go.Proofs.Ytaimbadajgjhaab
open Fl Ieee

theorem Bd.word_mod {k : FloatKind} {s : Bool} {q : Nat} (hq : q < k.format.infRung) : k.format.word s q % k.format.signWeight = q := by
  have hl := k.format.infRung_lt
  unfold Format.word
  split
  · rw [Nat.add_mod_left, Nat.mod_eq_of_lt (by omega)]
  · exact Nat.mod_eq_of_lt (by omega)
/-- a quotient of at least twice what E tells is at least E -/
theorem div_ge {k : FloatKind} {x y r A D E C : Nat} (hx : Bd k x A) (hy : Bd k y D) (h0 : 0 < y % k.format.signWeight) (hl : k.format.leastPlace ≤ 0)
    (hE : E < k.format.infRung) (hr : Bd k r C)
    (hC : 2 * (val k.format (y % k.format.signWeight) * val k.format E) ≤ val k.format (x % k.format.signWeight) <<< (-k.format.leastPlace).toNat)
    (h : FopR .quo k x y r) : E ≤ r % k.format.signWeight := by
  obtain ⟨s, m, u, hm, hu, hvm, _⟩ := hx.read
  obtain ⟨t, n, v, hn, hv, hvn, _⟩ := hy.read
  have hn0 : n ≠ 0 := by
    intro e
    subst e
    have : val k.format (y % k.format.signWeight) = 0 := by rw [← hv, Nat.zero_shiftLeft]
    have h2 := val_lt k.format h0
    rw [val_zero] at h2
    omega
  have he : ∃ q, floatBits .quo k x y = some (k.format.word (s ^^ t) q) ∧ E ≤ q ∧ q ≤ k.format.infRung := by
    show ∃ q, k.format.div x y = some (k.format.word (s ^^ t) q) ∧ _
    unfold Format.div
    rw [hm, hn]
    unfold Datum.quotient
    dsimp only
    rw [if_neg hn0]
    generalize hM : k.format.fractionBits + 2 + n.log2 - m.log2 = more
    refine ⟨_, by rw [Option.map_some, write_rg], ?_, ?_⟩
    rotate_left
    · exact nearest_false_le _ _ _
    rw [← hu, ← hv] at hC
    by_cases hm0 : m = 0
    · subst hm0
      rw [Nat.zero_shiftLeft, Nat.zero_shiftLeft] at hC
      have hp : 0 < n <<< v := by rw [Nat.shiftLeft_eq]; exact Nat.mul_pos (Nat.pos_of_ne_zero hn0) (Nat.two_pow_pos _)
      have : val k.format E = 0 := by
        rcases Nat.eq_zero_or_pos (val k.format E) with e | e
        · exact e
        · have := Nat.mul_pos hp e; omega
      have h3 := rg_val k.format hE
      rw [this] at h3
      have h4 : rg k.format 0 k.format.leastPlace = 0 := by unfold rg Format.nearest; rfl
      omega
    · have hge : 1 ≤ m <<< more / n := by
        refine (Nat.le_div_iff_mul_le (Nat.pos_of_ne_zero hn0)).2 ?_
        rw [Nat.one_mul, Nat.shiftLeft_eq]
        have h1 := Nat.lt_log2_self (n := n)
        have h2 := Nat.log2_self_le hm0
        have h3 : 2 ^ (n.log2 + 1) ≤ 2 ^ m.log2 * 2 ^ more := by rw [← Nat.pow_add]; exact Nat.pow_le_pow_right (by decide) (by omega)
        have h4 : 2 ^ m.log2 * 2 ^ more ≤ m * 2 ^ more := Nat.mul_le_mul_right _ h2
        omega
      have hQ : m <<< more ≤ (2 * (m <<< more / n) + (m <<< more % n != 0).toNat) * n := by
        have h1 := Nat.div_add_mod (m <<< more) n
        have h2 := Nat.mod_lt (m <<< more) (Nat.pos_of_ne_zero hn0)
        have h3 : (m <<< more / n + 1) * n ≤ (2 * (m <<< more / n) + (m <<< more % n != 0).toNat) * n := Nat.mul_le_mul_right _ (by omega)
        rw [Nat.add_mul, Nat.one_mul, Nat.mul_comm] at h3
        omega
      generalize 2 * (m <<< more / n) + (m <<< more % n != 0).toNat = Q at hQ ⊢
      generalize hL : (-k.format.leastPlace).toNat = L at *
      have hlp : k.format.leastPlace = -(L : Int) := by omega
      refine Nat.le_trans (Nat.le_of_eq (rg_val k.format hE).symm) ?_
      rw [hlp]
      refine rg_mono k.format (c := -(L : Int) - (v : Int) - (more : Int) - 1) (by omega) (by omega) ?_
      rw [show (-(L : Int) + (u : Int) - (-(L : Int) + (v : Int)) - (more : Int) - 1 - (-(L : Int) - (v : Int) - (more : Int) - 1)).toNat = u + L by omega,
        show (-(L : Int) - (-(L : Int) - (v : Int) - (more : Int) - 1)).toNat = v + more + 1 by omega]
      simp only [Nat.shiftLeft_eq] at *
      refine Nat.le_of_mul_le_mul_right (c := n) ?_ (Nat.pos_of_ne_zero hn0)
      calc val k.format E * 2 ^ (v + more + 1) * n = 2 * (n * 2 ^ v * val k.format E) * 2 ^ more := by
            rw [Nat.pow_succ, Nat.pow_add]; simp only [Nat.mul_assoc, Nat.mul_comm, Nat.mul_left_comm]
        _ ≤ m * 2 ^ u * 2 ^ L * 2 ^ more := Nat.mul_le_mul_right _ hC
        _ = (m * 2 ^ more) * 2 ^ (u + L) := by rw [Nat.pow_add]; simp only [Nat.mul_assoc, Nat.mul_comm, Nat.mul_left_comm]
        _ ≤ (Q * n) * 2 ^ (u + L) := Nat.mul_le_mul_right _ hQ
        _ = Q * 2 ^ (u + L) * n := by rw [Nat.mul_right_comm]
  obtain ⟨q, he, hq, hq2⟩ := he
  obtain ⟨e1, e2⟩ := h.of_some he
  have hl := k.format.infRung_lt
  rw [e1]
  unfold Format.word
  split
  · rw [Nat.add_mod_left, Nat.mod_eq_of_lt (by omega)]; exact hq
  · rw [Nat.mod_eq_of_lt (by omega)]; exact hq

def cntB : Nat := rg FloatKind.f32.format 1000000 0
def prdB : Nat := rg FloatKind.f32.format 64000000000 0
def wgtB : Nat := rg FloatKind.f32.format 64000 0
def dueB : Nat := dblB .f32 prdB
def lesB : Nat := addB .f32 cntB dueB
def sqrB : Nat := mulB .f32 lesB lesB
def trmB : Nat := dblB .f32 1862270976
def farSB : Nat → Nat
  | 0 => 0
  | k + 1 => addB .f32 (farSB k) trmB
theorem farSB_ok : ∀ k, k < 65 → farSB k < 2139095040 := by decide +kernel
theorem bds : cntB < 2139095040 ∧ prdB < 2139095040 ∧ wgtB < 2139095040 ∧ dueB < 2139095040 ∧ lesB < 2139095040 ∧ sqrB < 2139095040 ∧ trmB < 2139095040 := by decide +kernel
theorem int_bd {n lo hi : Int} (h0 : 0 ≤ lo) (h1 : lo ≤ n) (h2 : n ≤ hi) (hh : rg FloatKind.f32.format hi.toNat 0 < 2139095040) : Bd .f32 (floatOfInt .f32 n) (rg FloatKind.f32.format hi.toNat 0) ∧ rg FloatKind.f32.format lo.toNat 0 ≤ floatOfInt .f32 n % 2147483648 := by
  have hw : floatOfInt .f32 n = FloatKind.f32.format.word (decide (n < 0)) (rg FloatKind.f32.format n.natAbs 0) := by
    show FloatKind.f32.encode (.number (decide (n < 0)) n.natAbs 0) = _
    exact write_rg .f32 _ _ _
  have hu : rg FloatKind.f32.format n.natAbs 0 ≤ rg FloatKind.f32.format hi.toNat 0 := rg_mono_at _ 0 (by omega)
  rw [hw]
  refine ⟨word_bd (k := .f32) hu hh, ?_⟩
  have := Bd.word_mod (k := .f32) (s := decide (n < 0)) (q := rg FloatKind.f32.format n.natAbs 0) (Nat.lt_of_le_of_lt hu hh)
  rw [show (2147483648 : Nat) = FloatKind.f32.format.signWeight from by decide +kernel, this]
  exact rg_mono_at _ 0 (by omega)

/-- the count that is due -/
def dueF (A W w : Int) : Nat := fop .quo .f32 (floatOfInt .f32 (A * w)) (floatOfInt .f32 W)
def lessF (A W w c : Int) : Nat := fop .sub .f32 (floatOfInt .f32 c) (dueF A W w)
def termF (A W w c : Int) : Nat := fop .quo .f32 (fop .mul .f32 (lessF A W w c) (lessF A W w c)) (dueF A W w)
theorem due_ok {A W w : Int} {r : Nat} (a1 : 1 ≤ A * w) (a2 : A * w ≤ 64000000000) (b1 : 1 ≤ W) (b2 : W ≤ 64000) (h : FopR .quo .f32 (floatOfInt .f32 (A * w)) (floatOfInt .f32 W) r) :
    r = dueF A W w ∧ Bd .f32 r dueB ∧ 922746880 ≤ r % 2147483648 := by
  obtain ⟨k1, k2⟩ := int_bd (lo := 1) (hi := 64000000000) (by omega) a1 a2 bds.2.1
  obtain ⟨l1, l2⟩ := int_bd (lo := 1) (hi := 64000) (by omega) b1 b2 bds.2.2.1
  have e1 : rg FloatKind.f32.format (1 : Int).toNat 0 = 1065353216 := by decide +kernel
  rw [e1] at k2 l2
  have hs : FloatKind.f32.format.signWeight = 2147483648 := by decide +kernel
  have hlp : FloatKind.f32.format.leastPlace = -149 := by decide +kernel
  have v1 : val FloatKind.f32.format 1065353216 = 2 ^ 149 := by decide +kernel
  generalize hX : floatOfInt .f32 (A * w) = X at *
  generalize hY : floatOfInt .f32 W = Y at *
  have hXB : X % 2147483648 ≤ prdB := by have := k1.2.1; rw [hs] at this; exact this
  have hYB : Y % 2147483648 ≤ wgtB := by have := l1.2.1; rw [hs] at this; exact this
  have g1 := val_le FloatKind.f32.format k2
  have g2 := val_le FloatKind.f32.format l2
  have g3 := val_le FloatKind.f32.format hXB
  have g4 := val_le FloatKind.f32.format hYB
  rw [v1] at g1 g2
  have h0 : 0 < Y % FloatKind.f32.format.signWeight := by rw [hs]; omega
  have hd := div_bd (C := prdB) k1 l1 h0 (by rw [hlp]; decide) (by
    rw [hs, hlp, Nat.shiftLeft_eq, show (- (-149 : Int)).toNat = 149 from rfl, Nat.mul_comm]
    exact Nat.mul_le_mul g2 g3) h bds.2.2.2.1
  refine ⟨by rw [hd.1]; unfold dueF; rw [hX, hY], hd.2, ?_⟩
  have := div_ge (E := 922746880) k1 l1 h0 (by rw [hlp]; decide) (by decide +kernel) hd.2 (by
    rw [hs, hlp, Nat.shiftLeft_eq, show (- (-149 : Int)).toNat = 149 from rfl]
    refine Nat.le_trans (Nat.mul_le_mul_left 2 (Nat.mul_le_mul_right _ g4)) (Nat.le_trans ?_ (Nat.mul_le_mul_right _ g1))
    decide +kernel) h
  rw [hs] at this
  exact this
theorem less_ok {A W w c : Int} {due r : Nat} (hd : due = dueF A W w) (hb : Bd .f32 due dueB) (c0 : 0 ≤ c) (c1 : c ≤ 1000000) (h : FopR .sub .f32 (floatOfInt .f32 c) due r) : r = lessF A W w c ∧ Bd .f32 r lesB := by
  obtain ⟨k1, -⟩ := int_bd (lo := 0) (hi := 1000000) (by omega) c0 c1 bds.1
  have := sub_bd k1 hb h bds.2.2.2.2.1
  exact ⟨by rw [this.1, hd]; rfl, this.2⟩
theorem term_ok {A W w c : Int} {due d q r : Nat} (hd : due = dueF A W w) (hb : Bd .f32 due dueB) (hg : 922746880 ≤ due % 2147483648) (he : d = lessF A W w c) (hc : Bd .f32 d lesB)
    (h1 : FopR .mul .f32 d d q) (h2 : FopR .quo .f32 q due r) : r = termF A W w c ∧ Bd .f32 r trmB := by
  have m1 := mul_bd hc hc h1 bds.2.2.2.2.2.1
  have hs : FloatKind.f32.format.signWeight = 2147483648 := by decide +kernel
  have hlp : FloatKind.f32.format.leastPlace = -149 := by decide +kernel
  have hq : q % 2147483648 ≤ sqrB := by have := m1.2.2.1; rw [hs] at this; exact this
  have g1 := val_le FloatKind.f32.format hq
  have g2 := val_le FloatKind.f32.format hg
  have := div_bd (C := 1862270976) m1.2 hb (by rw [hs]; omega) (by rw [hlp]; decide) (by
    rw [hs, hlp, Nat.shiftLeft_eq, show (- (-149 : Int)).toNat = 149 from rfl]
    refine Nat.le_trans (Nat.mul_le_mul_right _ g1) (Nat.le_trans ?_ (Nat.mul_le_mul_right _ g2))
    decide +kernel) h2 bds.2.2.2.2.2.2
  exact ⟨by rw [this.1, m1.1, he, hd]; rfl, this.2⟩
/-- the sum of the first k terms -/
def farF (cs ws : List Int) (A W : Int) : Nat → Nat
  | 0 => 0
  | k + 1 => fop .add .f32 (farF cs ws A W k) (termF A W (ws.getD k 0) (cs.getD k 0))
theorem far_ok {cs ws : List Int} {A W : Int} {k s t r : Nat} (hk : k < 64) (hs : s = farF cs ws A W k) (hb : Bd .f32 s (farSB k)) (ht : t = termF A W (ws.getD k 0) (cs.getD k 0)) (hc : Bd .f32 t trmB) (h : FopR .add .f32 s t r) :
    r = farF cs ws A W (k + 1) ∧ Bd .f32 r (farSB (k + 1)) := by
  have := add_bd hb hc h (farSB_ok (k + 1) (by omega))
  exact ⟨by rw [this.1, hs, ht]; rfl, this.2⟩
theorem far_zero : Bd .f32 0 (farSB 0) := by
  refine ⟨by decide +kernel, by decide +kernel, by decide +kernel⟩
theorem Bd.fin {x A : Nat} (h : Bd .f32 x A) : finB3 x = true := by
  have h1 := h.2.1
  have h2 := h.2.2
  rw [show FloatKind.f32.format.signWeight = 2147483648 from by decide +kernel] at h1
  rw [show FloatKind.f32.format.infRung = 2139095040 from by decide +kernel] at h2
  unfold finB3
  exact decide_eq_true (by omega)
end Go.Proofs.Ytaimbadajgjhaab
