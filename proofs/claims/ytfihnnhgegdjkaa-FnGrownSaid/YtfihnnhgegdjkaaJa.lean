/- Chances and growth in single precision: what each step may give. Nothing of a translation. -/
import Derived.Test.YtfihnnhgegdjkaaFn
set_option linter.unusedVariables false
namespace Go.Proofs.Ytfihnnhgegdjkaa
open Fl Ieee

def geB (x c : Nat) : Bool := FloatKind.f32.format.order x c == some .gt || FloatKind.f32.format.order x c == some .eq
def leB (x c : Nat) : Bool := FloatKind.f32.format.order x c == some .lt || FloatKind.f32.format.order x c == some .eq
def ltB (x c : Nat) : Bool := FloatKind.f32.format.order x c == some .lt
def gtB (x c : Nat) : Bool := FloatKind.f32.format.order x c == some .gt
def shareB (x : Nat) : Bool := geB x 0 && leB x 1065353216
def finB3 (x : Nat) : Bool := decide (x % 2147483648 < 2139095040)

theorem nan_order {x : Nat} (c : Nat) (h : isNan .f32 x = true) : FloatKind.f32.format.order x c = none := order_nan_left h
theorem key32_0 : key .f32 0 = 0 := by decide +kernel
theorem key32_1 : key .f32 1065353216 = 1065353216 := by decide +kernel
theorem fin_notNan {x : Nat} (h : isNan .f32 x = true) : finB3 x = false := by
  rw [isNan32] at h
  have := of_decide_eq_true h
  exact decide_eq_false (by omega)
theorem share_bd {x : Nat} (hx : x < 4294967296) (h : shareB x = true) : Bd .f32 x 1065353216 := by
  unfold shareB geB leB at h
  have hn : isNan .f32 x = false := by
    cases hn : isNan .f32 x
    · rfl
    · rw [nan_order _ hn] at h; simp at h
  have w1 : (Lit.float .f32 x).wf = true := wf_of32 hx
  rw [order_key .f32 w1 (wf_of32 (by omega)) hn (by decide +kernel), order_key .f32 w1 (wf_of32 (by omega)) hn (by decide +kernel), key32_0, key32_1] at h
  simp only [some_beq, compare_gt, compare_lt, compare_eq, Bool.and_eq_true, Bool.or_eq_true, decide_eq_true_eq] at h
  have hk : 0 ≤ key .f32 x ∧ key .f32 x ≤ 1065353216 := by omega
  unfold key at hk
  rw [signWeight32] at hk
  refine ⟨by rw [signWeight32]; omega, ?_, by rw [infRung32]; omega⟩
  rw [signWeight32]
  unfold sg at hk
  split at hk <;> omega

/-- a gain: a chance times a pot, less the rest times a call -/
def GainC (x p c s : Nat) : Prop := ∃ a b d, FopR .mul .f32 x p a ∧ FopR .sub .f32 1065353216 x b ∧ FopR .mul .f32 b c d ∧ FopR .sub .f32 a d s
theorem GainC.same {x p c s t : Nat} (h : GainC x p c s) (g : GainC x p c t) : SameF .f32 s t := by
  obtain ⟨a, b, d, h1, h2, h3, h4⟩ := h
  obtain ⟨a', b', d', g1, g2, g3, g4⟩ := g
  exact fop_same h4 g4 (fop_same h1 g1 rfl rfl) (fop_same h3 g3 (fop_same h2 g2 rfl rfl) rfl)
theorem stake_bd {n : Int} (h0 : 0 ≤ n) (h1 : n ≤ 1000000) : Bd .f32 (floatOfInt .f32 n) 1232348160 := by
  have hw : floatOfInt .f32 n = FloatKind.f32.format.word (decide (n < 0)) (rg FloatKind.f32.format n.natAbs 0) := by
    show FloatKind.f32.encode (.number (decide (n < 0)) n.natAbs 0) = _
    exact write_rg .f32 _ _ _
  rw [hw]
  exact word_bd (k := .f32) (Nat.le_trans (rg_mono_at FloatKind.f32.format 0 (n := 1000000) (by omega)) (show rg FloatKind.f32.format 1000000 0 ≤ 1232348160 by decide +kernel)) (by decide +kernel)
theorem GainC.fin {x p c s : Nat} (hx : Bd .f32 x 1065353216) (hp : Bd .f32 p 1232348160) (hc : Bd .f32 c 1232348160) (h : GainC x p c s) : finB3 s = true := by
  obtain ⟨a, b, d, h1, h2, h3, h4⟩ := h
  have k1 : mulB .f32 1065353216 1232348160 ≤ 1300000000 := by decide +kernel
  have k2 : addB .f32 1065353216 1065353216 ≤ 1100000000 := by decide +kernel
  have k3 : mulB .f32 1100000000 1232348160 ≤ 1400000000 := by decide +kernel
  have k4 : addB .f32 1300000000 1400000000 ≤ 1500000000 := by decide +kernel
  have i := infRung32
  have ba := (mul_bd hx hp h1 (by omega)).2.mono k1 (by omega)
  have bb := (sub_bd (x := 1065353216) (A := 1065353216) ⟨by decide +kernel, by decide +kernel, by omega⟩ hx h2 (by omega)).2.mono k2 (by omega)
  have bd := (mul_bd bb hc h3 (by omega)).2.mono k3 (by omega)
  have bs := (sub_bd ba bd h4 (by omega)).2.mono k4 (by omega)
  unfold finB3
  have := bs.2.1
  rw [signWeight32] at this
  exact decide_eq_true (by omega)

/-- the share that grows most, before it is looked at -/
def GrowC (x y s : Nat) : Prop := ∃ a b c, FopR .add .f32 y 1065353216 a ∧ FopR .mul .f32 x a b ∧ FopR .sub .f32 b 1065353216 c ∧ FopR .quo .f32 c y s
theorem GrowC.same {x y s t : Nat} (h : GrowC x y s) (g : GrowC x y t) : SameF .f32 s t := by
  obtain ⟨a, b, d, h1, h2, h3, h4⟩ := h
  obtain ⟨a', b', d', g1, g2, g3, g4⟩ := g
  exact fop_same h4 g4 (fop_same h3 g3 (fop_same h2 g2 rfl (fop_same h1 g1 rfl rfl)) rfl) rfl
theorem fop_nan_left {op : BinOp} {x y r : Nat} (hx : isNan .f32 x = true) (h : FopR op .f32 x y r) : isNan .f32 r = true := by
  rcases h with h | ⟨-, h, -⟩
  · rw [floatBits_nan_left hx] at h; cases h
  · exact h
theorem fop_nan_right {op : BinOp} {x y r : Nat} (hy : isNan .f32 y = true) (h : FopR op .f32 x y r) : isNan .f32 r = true := by
  rcases h with h | ⟨-, h, -⟩
  · rw [floatBits_nan_right hy] at h; cases h
  · exact h
theorem fop_none {op : BinOp} {x y r : Nat} (hn : floatBits op .f32 x y = none) (h : FopR op .f32 x y r) : isNan .f32 r = true := by
  rcases h with h | ⟨-, h, -⟩
  · rw [hn] at h; cases h
  · exact h
def infS (s : Bool) : Nat := if s then 4286578688 else 2139095040
theorem read_infS (s : Bool) : FloatKind.f32.format.read (infS s) = .infinity s := by cases s <;> decide +kernel
theorem write_infS (s : Bool) : FloatKind.f32.format.write (.infinity s) = infS s := by cases s <;> decide +kernel
/-- infinite, of either sign, or no number -/
def wild (x : Nat) : Prop := isNan .f32 x = true ∨ ∃ s, x = infS s
theorem wild_fin {x : Nat} (h : wild x) : finB3 x = false := by
  rcases h with h | ⟨s, rfl⟩
  · exact fin_notNan h
  · cases s <;> decide +kernel
theorem mul_wild {x y r : Nat} (hy : wild y) (h : FopR .mul .f32 x y r) : wild r := by
  rcases hy with hy | ⟨t, rfl⟩
  · exact .inl (fop_nan_right hy h)
  · rcases h with h | ⟨-, h, -⟩
    · right
      have h' : ((FloatKind.f32.format.read x).product (FloatKind.f32.format.read (infS t))).map FloatKind.f32.format.write = some r := h
      rw [read_infS] at h'
      cases hx : FloatKind.f32.format.read x with
      | nan s u => rw [hx] at h'; simp [Datum.product] at h'
      | infinity s => rw [hx] at h'; simp [Datum.product, write_infS] at h'; exact ⟨_, h'.symm⟩
      | number s m e =>
        rw [hx] at h'
        by_cases h0 : m = 0
        · simp [Datum.product, h0] at h'
        · simp [Datum.product, h0, write_infS] at h'; exact ⟨_, h'.symm⟩
    · exact .inl h
theorem sum_wild {d : Datum} {t : Bool} {r : Nat} (h : ((Datum.infinity t).sum d).map FloatKind.f32.format.write = some r) : ∃ s, r = infS s := by
  cases d with
  | nan s u => simp [Datum.sum] at h
  | infinity s =>
    by_cases e : t = s
    · simp [Datum.sum, e, write_infS] at h; exact ⟨_, h.symm⟩
    · simp [Datum.sum, e] at h
  | number s m e => simp [Datum.sum, write_infS] at h; exact ⟨_, h.symm⟩
theorem add_wild {x y r : Nat} (hx : wild x) (h : FopR .add .f32 x y r) : wild r := by
  rcases hx with hx | ⟨t, rfl⟩
  · exact .inl (fop_nan_left hx h)
  · rcases h with h | ⟨-, h, -⟩
    · have h' : ((FloatKind.f32.format.read (infS t)).sum (FloatKind.f32.format.read y)).map FloatKind.f32.format.write = some r := h
      rw [read_infS] at h'
      exact .inr (sum_wild h')
    · exact .inl h
theorem sub_wild {x y r : Nat} (hx : wild x) (h : FopR .sub .f32 x y r) : wild r := by
  rcases hx with hx | ⟨t, rfl⟩
  · exact .inl (fop_nan_left hx h)
  · rcases h with h | ⟨-, h, -⟩
    · have h' : ((FloatKind.f32.format.read (infS t)).sum (FloatKind.f32.format.read y).opposite).map FloatKind.f32.format.write = some r := h
      rw [read_infS] at h'
      exact .inr (sum_wild h')
    · exact .inl h
theorem add_wild_right {x y r : Nat} (hy : wild y) (hx : finB3 x = true) (h : FopR .add .f32 x y r) : wild r := by
  rcases hy with hy | ⟨t, rfl⟩
  · exact .inl (fop_nan_right hy h)
  · rcases h with h | ⟨-, h, -⟩
    · have h' : ((FloatKind.f32.format.read x).sum (FloatKind.f32.format.read (infS t))).map FloatKind.f32.format.write = some r := h
      rw [read_infS] at h'
      right
      cases hx' : FloatKind.f32.format.read x with
      | nan s u => rw [hx'] at h'; simp [Datum.sum] at h'
      | infinity s =>
        rw [hx'] at h'
        by_cases e : s = t
        · simp [Datum.sum, e, write_infS] at h'; exact ⟨_, h'.symm⟩
        · simp [Datum.sum, e] at h'
      | number s m e => rw [hx'] at h'; simp [Datum.sum, write_infS] at h'; exact ⟨_, h'.symm⟩
    · exact .inl h
theorem quo_inf {x r : Nat} (t : Bool) (hx : wild x) (h : FopR .quo .f32 x (infS t) r) : isNan .f32 r = true := by
  rcases hx with hx | ⟨s, rfl⟩
  · exact fop_nan_left hx h
  · refine fop_none ?_ h
    show ((FloatKind.f32.format.read (infS s)).quotient _ (FloatKind.f32.format.read (infS t))).map _ = none
    rw [read_infS, read_infS]; rfl
theorem GrowC.inf {x s : Nat} (h : GrowC x 2139095040 s) : isNan .f32 s = true := by
  obtain ⟨a, b, c, h1, h2, h3, h4⟩ := h
  have w0 : wild 2139095040 := .inr ⟨false, rfl⟩
  exact quo_inf false (sub_wild (mul_wild (add_wild w0 h1) h2) h3) h4
/-- what is told of a share -/
def growOut (s : Nat) : Nat × Bool := if ltB s 0 then (0, true) else if finB3 s then (s, true) else (0, false)
theorem growOut_nan {s : Nat} (h : isNan .f32 s = true) : growOut s = (0, false) := by
  unfold growOut ltB
  rw [nan_order _ h, fin_notNan h]; rfl
def finOut (s : Nat) : Nat × Bool := if finB3 s then (s, true) else (0, false)
theorem finOut_nan {s : Nat} (h : finB3 s = false) : finOut s = (0, false) := by unfold finOut; rw [h]; rfl
theorem out_same {f : Nat → Nat × Bool} (hf : ∀ s, isNan .f32 s = true → f s = (0, false)) {s t : Nat} (h : SameF .f32 s t) : f s = f t := by
  rcases h.cases with ⟨h1, h2⟩ | ⟨-, -, rfl⟩
  · rw [hf s h1, hf t h2]
  · rfl
theorem above_inf {y : Nat} (hy : y < 4294967296) (h : gtB y 0 = true) (hf : finB3 y = false) : y = 2139095040 := by
  unfold gtB at h
  have hn : isNan .f32 y = false := by
    cases hn : isNan .f32 y
    · rfl
    · rw [nan_order _ hn] at h; simp at h
  rw [order_key .f32 (wf_of32 hy) (wf_of32 (by omega)) hn (by decide +kernel), key32_0] at h
  simp only [some_beq, compare_gt, decide_eq_true_eq] at h
  unfold key at h
  rw [signWeight32] at h
  rw [isNan32] at hn
  have hn2 := of_decide_eq_false hn
  have hf2 := of_decide_eq_false hf
  unfold sg at h
  split at h
  · omega
  · rename_i hs
    have := of_decide_eq_false (Bool.eq_false_iff.2 hs)
    omega
end Go.Proofs.Ytfihnnhgegdjkaa
