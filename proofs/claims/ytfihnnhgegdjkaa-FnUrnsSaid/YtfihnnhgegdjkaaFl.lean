/- Floats for the walks of this seat: what an operation gives with all not-a-numbers told as one; the order of numbers by their rungs; 32-bit numbers as 64-bit ones. Imports nothing of the translation. -/
import Derived.Laws.FloatArith
import Derived.WalkKit
import Derived.Deep.Draws
namespace Go.Proofs.Ytfihnnhgegdjkaa
namespace Fl
open Ieee

def isNan (k : FloatKind) (b : Nat) : Bool := (k.format.read b).isNaN
def nanOf : FloatKind → Nat | .f32 => 2143289344 | .f64 => 9221120237041090560
/-- the bits, all not-a-numbers told as one -/
def cn (k : FloatKind) (b : Nat) : Nat := if isNan k b then nanOf k else b

theorem isNan_nanOf (k : FloatKind) : isNan k (nanOf k) = true := by cases k <;> decide +kernel

theorem read_word (f : Format) (neg : Bool) {rung : Nat} (h : rung ≤ f.infRung) : (f.read (f.word neg rung)).isNaN = false := by
  have hl := f.infRung_lt
  have h1 : f.word neg rung % f.signWeight = rung := by
    unfold Format.word
    split
    · rw [Nat.add_mod_left, Nat.mod_eq_of_lt (by omega)]
    · exact Nat.mod_eq_of_lt (by omega)
  unfold Format.read
  dsimp only
  rw [h1]
  split
  · rfl
  · split
    · rfl
    · rw [if_pos (by omega)]; rfl

theorem write_notNan (f : Format) (d : Datum) (h : d.isNaN = false) : (f.read (f.write d)).isNaN = false := by
  cases d with
  | number neg mag place =>
    show (f.read (f.nearest neg mag place)).isNaN = false
    unfold Format.nearest
    dsimp only
    split
    · exact read_word f _ (Nat.zero_le _)
    · exact read_word f _ (Nat.min_le_right _ _)
  | infinity neg => exact read_word f _ (Nat.le_refl _)
  | nan neg fr => cases h

theorem sum_notNan {a b d : Datum} (h : a.sum b = some d) : d.isNaN = false := by
  cases a <;> cases b <;> simp only [Datum.sum] at h
  all_goals first | (cases h; done) | skip
  · cases h; rfl
  · cases h; rfl
  · cases h; rfl
  · split at h
    · cases h; rfl
    · cases h

theorem product_notNan {a b d : Datum} (h : a.product b = some d) : d.isNaN = false := by
  cases a <;> cases b <;> simp only [Datum.product] at h
  all_goals first | (cases h; done) | (cases h; rfl) | (split at h <;> first | (cases h; done) | (cases h; rfl))

theorem quotient_notNan {n : Nat} {a b d : Datum} (h : a.quotient n b = some d) : d.isNaN = false := by
  cases a <;> cases b <;> simp only [Datum.quotient] at h
  all_goals first | (cases h; done) | (cases h; rfl) | skip
  split at h
  · split at h
    · cases h
    · cases h; rfl
  · cases h; rfl

theorem root_notNan {n : Nat} {a d : Datum} (h : a.root n = some d) : d.isNaN = false := by
  cases a <;> simp only [Datum.root] at h
  all_goals first | (cases h; done) | skip
  · split at h
    · cases h; rfl
    · split at h
      · cases h
      · cases h; rfl
  · split at h
    · cases h
    · cases h; rfl

theorem map_notNan (f : Format) {o : Option Datum} {r : Nat} (ho : ∀ d, o = some d → d.isNaN = false) (h : o.map f.write = some r) : (f.read r).isNaN = false := by
  cases o with
  | none => cases h
  | some d => cases h; exact write_notNan f d (ho d rfl)

theorem opposite_isNaN (d : Datum) : d.opposite.isNaN = d.isNaN := by cases d <;> rfl

theorem floatBits_notNan {op : BinOp} {k : FloatKind} {x y r : Nat} (h : floatBits op k x y = some r) : isNan k r = false := by
  unfold floatBits at h
  unfold isNan
  split at h
  · exact map_notNan _ (fun d hd => sum_notNan hd) h
  · exact map_notNan _ (fun d hd => sum_notNan hd) h
  · exact map_notNan _ (fun d hd => product_notNan hd) h
  · exact map_notNan _ (fun d hd => quotient_notNan hd) h
  · cases h

theorem isNaN_iff {d : Datum} (h : d.isNaN = true) : ∃ s t, d = .nan s t := by
  cases d <;> first | (cases h; done) | exact ⟨_, _, rfl⟩

theorem floatBits_nan_left {op : BinOp} {k : FloatKind} {x y : Nat} (h : isNan k x = true) : floatBits op k x y = none := by
  obtain ⟨s, t, e⟩ := isNaN_iff h
  unfold floatBits
  split <;> first | rfl | (simp only [Format.add, Format.sub, Format.mul, Format.div, e, Datum.sum, Datum.product, Datum.quotient, Option.map])

theorem floatBits_nan_right {op : BinOp} {k : FloatKind} {x y : Nat} (h : isNan k y = true) : floatBits op k x y = none := by
  obtain ⟨s, t, e⟩ := isNaN_iff h
  unfold floatBits
  cases hx : k.format.read x <;>
    split <;> first | rfl | (simp only [Format.add, Format.sub, Format.mul, Format.div, e, hx, Datum.opposite, Datum.sum, Datum.product, Datum.quotient, Option.map])

/-- the operation, all not-a-numbers told as one -/
def fop (op : BinOp) (k : FloatKind) (x y : Nat) : Nat := (floatBits op k x y).getD (nanOf k)

/-- r is what the operation may give -/
def FopR (op : BinOp) (k : FloatKind) (x y r : Nat) : Prop := floatBits op k x y = some r ∨ (floatBits op k x y = none ∧ isNan k r = true ∧ (Lit.float k r).wf = true)

theorem cn_of {op : BinOp} {k : FloatKind} {x y r : Nat} (h : FopR op k x y r) : cn k r = fop op k x y := by
  unfold cn fop
  rcases h with h | ⟨h, h2, _⟩
  · rw [floatBits_notNan h, h]; rfl
  · rw [h2, h]; rfl

theorem floatBits_cn (op : BinOp) (k : FloatKind) (x y : Nat) : floatBits op k (cn k x) (cn k y) = floatBits op k x y := by
  unfold cn
  by_cases hx : isNan k x = true
  · rw [floatBits_nan_left hx, if_pos hx, floatBits_nan_left (isNan_nanOf k)]
  · rw [if_neg hx]
    by_cases hy : isNan k y = true
    · rw [floatBits_nan_right hy, if_pos hy, floatBits_nan_right (isNan_nanOf k)]
    · rw [if_neg hy]

theorem fop_cn (op : BinOp) (k : FloatKind) (x y : Nat) : fop op k (cn k x) (cn k y) = fop op k x y := by unfold fop; rw [floatBits_cn]
theorem cn_of_cn {op : BinOp} {k : FloatKind} {x y r : Nat} (h : FopR op k x y r) : cn k r = fop op k (cn k x) (cn k y) := by rw [fop_cn]; exact cn_of h
theorem isNan_cn (k : FloatKind) (x : Nat) : isNan k (cn k x) = isNan k x := by
  unfold cn; by_cases h : isNan k x = true
  · rw [if_pos h, h, isNan_nanOf]
  · rw [if_neg h]
theorem cn_cn (k : FloatKind) (x : Nat) : cn k (cn k x) = cn k x := by
  show (if isNan k (cn k x) then _ else cn k x) = _
  rw [isNan_cn]
  by_cases h : isNan k x = true
  · rw [if_pos h]; unfold cn; rw [if_pos h]
  · rw [if_neg h]
theorem cn_notNan {k : FloatKind} {x : Nat} (h : isNan k x = false) : cn k x = x := by unfold cn; rw [h]; rfl
theorem cn_nan {k : FloatKind} {x : Nat} (h : isNan k x = true) : cn k x = nanOf k := by unfold cn; rw [h]; rfl

theorem order_nan_left {f : Format} {x y : Nat} (h : (f.read x).isNaN = true) : f.order x y = none := by
  obtain ⟨s, t, e⟩ := isNaN_iff h
  simp only [Format.order, e, Datum.order]
theorem order_nan_right {f : Format} {x y : Nat} (h : (f.read y).isNaN = true) : f.order x y = none := by
  obtain ⟨s, t, e⟩ := isNaN_iff h
  unfold Format.order
  cases f.read x <;> simp only [e, Datum.order]
theorem order_self {f : Format} {x : Nat} (h : (f.read x).isNaN = false) : f.order x x = some .eq := by
  unfold Format.order
  cases hx : f.read x with
  | number s m i => simp [Datum.order]
  | infinity s => simp only [Datum.order]; cases s <;> rfl
  | nan s t => rw [hx] at h; cases h
theorem order_cn (k : FloatKind) (x y : Nat) : k.format.order (cn k x) (cn k y) = k.format.order x y := by
  unfold cn
  by_cases hx : isNan k x = true
  · rw [order_nan_left hx, if_pos hx, order_nan_left (isNan_nanOf k)]
  · rw [if_neg hx]
    by_cases hy : isNan k y = true
    · rw [order_nan_right hy, if_pos hy, order_nan_right (isNan_nanOf k)]
    · rw [if_neg hy]
theorem order_self_eq (k : FloatKind) (x : Nat) : (k.format.order x x == some .eq) = !isNan k x := by
  by_cases h : isNan k x = true
  · rw [order_nan_left h, h]; rfl
  · rw [order_self (by simpa [isNan] using h)]; simp [Bool.eq_false_iff.2 h]

/-- conversion between the kinds, all not-a-numbers told as one -/
def fconv (s : FloatKind) (b : Nat) (k : FloatKind) : Nat := (floatToFloatBits s b k).getD (nanOf k)
/-- r is what the conversion may give: of a finite number that is too great, anything -/
def FconvR (s : FloatKind) (b : Nat) (k : FloatKind) (r : Nat) : Prop :=
  floatToFloatBits s b k = some r ∨ (floatToFloatBits s b k = none ∧ (isNan s b = true → isNan k r = true) ∧ (Lit.float k r).wf = true)

theorem isNan_of_rung (k : FloatKind) (b : Nat) (h : k.format.infRung < b % k.format.signWeight) : isNan k b = true := by
  have hb : k.format.binade ≤ k.format.infRung := by cases k <;> decide +kernel
  unfold isNan Format.read
  dsimp only
  rw [if_neg (by omega), if_neg (by omega), if_neg (by omega)]
  rfl
theorem infRung32 : (FloatKind.format .f32).infRung = 2139095040 := by decide +kernel
theorem infRung64 : (FloatKind.format .f64).infRung = 9218868437227405312 := by decide +kernel
theorem signWeight32 : (FloatKind.format .f32).signWeight = 2147483648 := by decide +kernel
theorem signWeight64 : (FloatKind.format .f64).signWeight = 9223372036854775808 := by decide +kernel

theorem nanBits_isNan (k : FloatKind) (x y : Nat) (t : Nat) : isNan k ((Question.nanBits k x y).cut t) = true := by
  refine isNan_of_rung _ _ ?_
  cases k
  · rw [infRung32, signWeight32]
    show 2139095040 < ((t % 2) * 2147483648 + 2139095040 + 1 + (t / 2) % 8388607) % 2147483648
    have h2 : (t / 2) % 8388607 < 8388607 := Nat.mod_lt _ (by decide)
    rw [show (t % 2) * 2147483648 + 2139095040 + 1 + (t / 2) % 8388607 = (2139095041 + (t / 2) % 8388607) + (t % 2) * 2147483648 by omega, Nat.add_mul_mod_self_right, Nat.mod_eq_of_lt (by omega)]
    omega
  · rw [infRung64, signWeight64]
    show 9218868437227405312 < ((t % 2) * 9223372036854775808 + 9218868437227405312 + 1 + (t / 2) % 4503599627370495) % 9223372036854775808
    have h2 : (t / 2) % 4503599627370495 < 4503599627370495 := Nat.mod_lt _ (by decide)
    rw [show (t % 2) * 9223372036854775808 + 9218868437227405312 + 1 + (t / 2) % 4503599627370495 = (9218868437227405313 + (t / 2) % 4503599627370495) + (t % 2) * 9223372036854775808 by omega, Nat.add_mul_mod_self_right, Nat.mod_eq_of_lt (by omega)]
    omega
theorem nanBits_wf (k : FloatKind) (x y : Nat) (t : Nat) : (Lit.float k ((Question.nanBits k x y).cut t)).wf = true := by
  refine wf_of_lt k _ ?_
  cases k
  · show ((t % 2) * 2147483648 + 2139095040 + 1 + (t / 2) % 8388607) < 4294967296
    have h2 : (t / 2) % 8388607 < 8388607 := Nat.mod_lt _ (by decide)
    omega
  · show ((t % 2) * 9223372036854775808 + 9218868437227405312 + 1 + (t / 2) % 4503599627370495) < 18446744073709551616
    have h2 : (t / 2) % 4503599627370495 < 4503599627370495 := Nat.mod_lt _ (by decide)
    omega
theorem nanConv_wf (k : FloatKind) (x : Nat) (t : Nat) : (Lit.float k ((Question.nanConv k x).cut t)).wf = true := by
  cases k
  · exact nanBits_wf .f32 0 0 t
  · exact nanBits_wf .f64 0 0 t
theorem overflow_wf (k : FloatKind) (x : Nat) (t : Nat) : (Lit.float k ((Question.floatToFloat x).cut t)).wf = true := by
  refine wf_of_lt k _ ?_
  have h : t % 4294967296 < 4294967296 := Nat.mod_lt _ (by decide)
  cases k
  · exact h
  · exact Nat.lt_trans h (by decide)
theorem nanConv_isNan (k : FloatKind) (x : Nat) (t : Nat) : isNan k ((Question.nanConv k x).cut t) = true := by
  cases k
  · exact nanBits_isNan .f32 0 0 t
  · exact nanBits_isNan .f64 0 0 t

section
variable {P : Program} {w : World} {ops : Array Oper} {rest : List Oper} {o : Oper} {a : Act} {Q : Exit → Act → World → Prop}

theorem run_farith (op : BinOp) (hop : op = .add ∨ op = .sub ∨ op = .mul ∨ op = .quo) (t : TypeId) (k : FloatKind) (x y : Nat) (w : World) :
    ∃ r n, FopR op k x y r ∧ (binOp op t (.float k x) (.float k y)).run P w = .ok (.float k r) (w.drewN n) := by
  cases h : floatBits op k x y with
  | some r => exact ⟨r, 0, .inl h, run_float_arith w op t k x y r h⟩
  | none =>
    refine ⟨(Question.nanBits k x y).cut (w.tape w.drawn (.nanBits k x y)), 1, .inr ⟨h, nanBits_isNan _ _ _ _, nanBits_wf _ _ _ _⟩, ?_⟩
    unfold floatBits at h
    rcases hop with rfl | rfl | rfl | rfl <;> simp only at h <;> simp [binOp, Op.floatArith, h] <;> rfl

theorem run_fconv (src dst : TypeId) (s k : FloatKind) (b : Nat) (hs : (P.underlying src).isSome = true) (hd : P.underlying dst = some (.float k)) (w : World) :
    ∃ r n, FconvR s b k r ∧ (convert src dst (.float s b)).run P w = .ok (.float k r) (w.drewN n) := by
  cases h : floatToFloatBits s b k with
  | some r => exact ⟨r, 0, .inl h, run_convert_float_float w src dst s k b r hs hd h⟩
  | none =>
    obtain ⟨u, hs'⟩ := Option.isSome_iff_exists.1 hs
    unfold floatToFloatBits at h
    split at h
    · cases h
    · rename_i ne
      split at h
      · rename_i sg fr he
        refine ⟨(Question.nanConv k b).cut (w.tape w.drawn (.nanConv k b)), 1, .inr ⟨by unfold floatToFloatBits; rw [if_neg ne, he], fun _ => nanConv_isNan _ _ _, nanConv_wf _ _ _⟩, ?_⟩
        cases u <;> simp [convert, run_underlying hs', run_underlying hd, Conv.floatToFloat, ne, he] <;> rfl
      · cases h
      · rename_i sg m e he
        split at h
        · rename_i ho
          refine ⟨(Question.floatToFloat b).cut (w.tape w.drawn (.floatToFloat b)), 1, .inr ⟨by unfold floatToFloatBits; rw [if_neg ne, he]; simp only [ho, if_true], fun hn => ?_, overflow_wf _ _ _⟩, ?_⟩
          · have : isNan s b = false := by unfold isNan; rw [show s.format.read b = _ from he]; rfl
            rw [this] at hn; cases hn
          · cases u <;> simp [convert, run_underlying hs', run_underlying hd, Conv.floatToFloat, ne, he, ho] <;> rfl
        · cases h

theorem wpList_wanted (hgd : Region.wanted o (yielded ops a.tmps) = true) (h : ∀ K : Act → World → Prop, (∀ a w, wpList P ops Q rest a w → K a w) → o.wp P a w K Q) : wpList P ops Q (o :: rest) a w :=
  wpList_step fun K hK => by rw [hgd]; exact h K hK

theorem wpList_farith (hgd : Region.wanted o (yielded ops a.tmps) = true) (op : BinOp) (T yT : TypeId) (x y : Operand) (ho : o.op = .binOp op T x y yT)
    (hop : op = .add ∨ op = .sub ∨ op = .mul ∨ op = .quo) (k : FloatKind) (xb yb : Nat) (hx : a.eval x = .float k xb) (hy : a.eval y = .float k yb)
    (h : ∀ r n, RowKit.Hid (FopR op k xb yb r) → wpList P ops Q rest (a.put o.dst (.float k r)) (w.drewN n)) : wpList P ops Q (o :: rest) a w := by
  refine wpList_wanted hgd fun K hK => ?_
  obtain ⟨r, n, hr, hrun⟩ := run_farith (P := P) op hop T k xb yb w
  unfold Oper.wp
  have he : ((eqGuard op T x y (.float k xb) (.float k yb)).run P w) = .ok () w := by
    rcases hop with rfl | rfl | rfl | rfl <;> rfl
  simp [execOp, ho, hx, hy, he, hrun, Result.andThen]
  exact hK _ _ (h r n hr)
end

theorem wpList_fconv {P : Program} {w : World} {ops : Array Oper} {rest : List Oper} {o : Oper} {a : Act} {Q : Exit → Act → World → Prop}
    (hgd : Region.wanted o (yielded ops a.tmps) = true) (src dst : TypeId) (x : Operand) (ho : o.op = .convert src dst x) (s k : FloatKind)
    (hs : (P.underlying src).isSome = true) (hd : P.underlying dst = some (.float k)) (b : Nat) (hx : a.eval x = .float s b)
    (h : ∀ r n, RowKit.Hid (FconvR s b k r) → wpList P ops Q rest (a.put o.dst (.float k r)) (w.drewN n)) : wpList P ops Q (o :: rest) a w := by
  refine wpList_wanted hgd fun K hK => ?_
  obtain ⟨r, n, hr, hrun⟩ := run_fconv (P := P) src dst s k b hs hd w
  unfold Oper.wp
  simp [execOp, ho, hx, hrun, Result.andThen]
  exact hK _ _ (h r n hr)

theorem upon_fconv {P : Program} {w : World} {o : Oper} {a : Act} {K : Act → World → Prop} {Q : Exit → Act → World → Prop}
    (src dst : TypeId) (s k : FloatKind) (hs : (P.underlying src).isSome = true) (hd : P.underlying dst = some (.float k)) (b : Nat)
    (h : ∀ r n, RowKit.Hid (FconvR s b k r) → K (a.put o.dst (.float k r)) (w.drewN n)) : o.upon P a K Q (((convert src dst (.float s b)).run P w).andThen fun v w' => .ok (.value v) w') := by
  obtain ⟨r, n, hr, hrun⟩ := run_fconv (P := P) src dst s k b hs hd w
  rw [hrun]
  exact h r n hr

theorem upon_farith {P : Program} {w : World} {o : Oper} {a : Act} {K : Act → World → Prop} {Q : Exit → Act → World → Prop}
    (op : BinOp) (hop : op = .add ∨ op = .sub ∨ op = .mul ∨ op = .quo) (T : TypeId) (k : FloatKind) (x y : Nat)
    (h : ∀ r n, RowKit.Hid (FopR op k x y r) → K (a.put o.dst (.float k r)) (w.drewN n)) : o.upon P a K Q (((binOp op T (.float k x) (.float k y)).run P w).andThen fun v w' => .ok (.value v) w') := by
  obtain ⟨r, n, hr, hrun⟩ := run_farith (P := P) op hop T k x y w
  rw [hrun]
  exact h r n hr

theorem cut_zero (way : Toward) (neg : Bool) (n : Nat) : way.cut neg n 0 = n := by
  unfold Toward.cut
  have : (1 <<< min 0 (n.log2 + 2) : Nat) = 1 := by simp
  dsimp only
  rw [this]
  cases way <;> simp [Nat.mod_one] <;> omega

theorem log2_lt_of {m : Nat} {k : Nat} (h : m < 2 ^ k) (hk : 0 < k) : m.log2 < k := by
  by_cases h0 : m = 0
  · subst h0; simpa using hk
  · exact (Nat.log2_lt h0).2 h

/-- a number that the wide kind has, is read as it was written -/
theorem read_nearest64 (s : Bool) (m : Nat) (e : Int) (h0 : m ≠ 0) (hL : m.log2 ≤ 52) (h1 : -1074 ≤ e - (52 - m.log2 : Nat)) (h2 : e - (52 - m.log2 : Nat) ≤ 971) :
    double.read (double.nearest s m e) = .number s (m <<< (52 - m.log2)) (e - (52 - m.log2 : Nat)) := by
  generalize hp : e - (52 - m.log2 : Nat) = p at *
  obtain ⟨q, hq⟩ : ∃ q : Nat, p = -1074 + (q : Int) := ⟨(p + 1074).toNat, by omega⟩
  have hlast : max (e + m.log2 - (double.fractionBits : Int)) double.leastPlace = p := by
    rw [show double.leastPlace = -1074 from by decide +kernel, show (double.fractionBits : Int) = 52 from rfl]
    omega
  have hlo : 2 ^ 52 ≤ m <<< (52 - m.log2) := by
    rw [Nat.shiftLeft_eq]
    have := Nat.log2_self_le h0
    calc 2 ^ 52 = 2 ^ m.log2 * 2 ^ (52 - m.log2) := by rw [← Nat.pow_add]; congr 1; omega
      _ ≤ _ := Nat.mul_le_mul_right _ this
  have hhi : m <<< (52 - m.log2) < 2 ^ 53 := by
    rw [Nat.shiftLeft_eq]
    have := Nat.lt_log2_self (n := m)
    calc m * 2 ^ (52 - m.log2) < 2 ^ (m.log2 + 1) * 2 ^ (52 - m.log2) := Nat.mul_lt_mul_of_pos_right this (Nat.two_pow_pos _)
      _ = 2 ^ 53 := by rw [← Nat.pow_add]; congr 1; omega
  generalize hK : m <<< (52 - m.log2) = K at *
  have hw : double.nearest s m e = double.word s (q * 2 ^ 52 + K) := by
    unfold Format.nearest
    dsimp only
    rw [if_neg h0, hlast, show (e - p).toNat = 52 - m.log2 by omega, show (p - e).toNat = 0 by omega, cut_zero, hK,
      show (p - double.leastPlace).toNat = q by rw [show double.leastPlace = -1074 from by decide +kernel]; omega,
      show double.binade = 2 ^ 52 from by decide +kernel, show double.infRung = 9218868437227405312 from by decide +kernel, Nat.min_eq_left (by omega)]
  have hr : (double.word s (q * 2 ^ 52 + K)) % double.signWeight = q * 2 ^ 52 + K := by
    rw [show double.signWeight = 9223372036854775808 from by decide +kernel]
    unfold Format.word
    rw [show double.signWeight = 9223372036854775808 from by decide +kernel]
    split <;> omega
  have hs : (double.word s (q * 2 ^ 52 + K) / double.signWeight % 2 == 1) = s := by
    unfold Format.word
    rw [show double.signWeight = 9223372036854775808 from by decide +kernel]
    cases s
    · rw [if_neg (by decide), Nat.div_eq_of_lt (by omega)]; rfl
    · rw [if_pos rfl, Nat.add_div_left _ (by decide), Nat.div_eq_of_lt (by omega)]; rfl
  rw [hw]
  unfold Format.read
  dsimp only
  rw [hr, hs, show double.binade = 2 ^ 52 from by decide +kernel, show double.infRung = 9218868437227405312 from by decide +kernel, if_neg (by omega), if_pos (by omega),
    show double.leastPlace = -1074 from by decide +kernel]
  congr 1
  · omega
  · omega

theorem read32_cases (x : Nat) : (∃ s, single.read x = .infinity s) ∨ (single.read x).isNaN = true ∨
    ∃ s m e, single.read x = .number s m e ∧ m < 2 ^ 24 ∧ -149 ≤ e ∧ e ≤ 104 := by
  unfold Format.read
  dsimp only
  rw [show single.binade = 8388608 from by decide +kernel, show single.infRung = 2139095040 from by decide +kernel, show single.leastPlace = -149 from by decide +kernel]
  split
  · exact .inr (.inr ⟨_, _, _, rfl, by omega, by omega, by omega⟩)
  · split
    · exact .inr (.inr ⟨_, _, _, rfl, by omega, by omega, by omega⟩)
    · split
      · exact .inl ⟨_, rfl⟩
      · exact .inr (.inl rfl)

/-- a number told finer: the same number -/
def Finer (d d' : Datum) : Prop := (∃ s, d = .infinity s ∧ d' = .infinity s) ∨ ∃ s m e a, d = .number s m e ∧ d' = .number s (m <<< a) (e - (a : Int))

theorem read_zero64 (s : Bool) : double.read (double.word s 0) = .number s 0 (-1074) := by cases s <;> decide +kernel
theorem read_inf64 (s : Bool) : double.read (double.word s double.infRung) = .infinity s := by cases s <;> decide +kernel

/-- a 32-bit number as a 64-bit one -/
theorem widen (x : Nat) (hn : isNan .f32 x = false) :
    ∃ r, floatToFloatBits .f32 x .f64 = some r ∧ isNan .f64 r = false ∧ Finer (single.read x) (double.read r) := by
  have hn' : (single.read x).isNaN = false := hn
  rcases read32_cases x with ⟨s, h⟩ | h | ⟨s, m, e, h, hm, he1, he2⟩
  · refine ⟨double.write (.infinity s), ?_, ?_, .inl ⟨s, h, read_inf64 s⟩⟩
    · unfold floatToFloatBits
      rw [if_neg (by decide), show FloatKind.f32.decode x = _ from h]
      rfl
    · show (double.read (double.word s double.infRung)).isNaN = false
      rw [read_inf64]; rfl
  · rw [h] at hn'; cases hn'
  · have key : ∃ a : Nat, double.read (double.write (.number s m e)) = .number s (m <<< a) (e - (a : Int)) := by
      by_cases h0 : m = 0
      · subst h0
        refine ⟨(e + 1074).toNat, ?_⟩
        show double.read (double.nearest s 0 e) = _
        unfold Format.nearest
        rw [if_pos rfl, read_zero64, Nat.zero_shiftLeft]
        congr 1
        omega
      · have hL : m.log2 < 24 := log2_lt_of hm (by decide)
        exact ⟨_, read_nearest64 s m e h0 (by omega) (by omega) (by omega)⟩
    obtain ⟨a, ha⟩ := key
    refine ⟨double.write (.number s m e), ?_, ?_, .inr ⟨s, m, e, a, h, ha⟩⟩
    · unfold floatToFloatBits
      rw [if_neg (by decide), show FloatKind.f32.decode x = _ from h]
      have : (FloatKind.f64.decode (FloatKind.f64.encode (.number s m e))).isInfinity = false := by
        show (double.read (double.write (.number s m e))).isInfinity = false
        rw [ha]; rfl
      simp only [this]
      rfl
    · show (double.read (double.write (.number s m e))).isNaN = false
      rw [ha]; rfl

theorem signed_shift (s : Bool) (m a u : Nat) : signed s (m <<< a) u = signed s m (a + u) := by
  unfold signed
  rw [← Nat.shiftLeft_add]
theorem signed_mul (s : Bool) (m u c : Nat) : signed s m (u + c) = signed s m u * (2 ^ c : Nat) := by
  unfold signed
  have : m <<< (u + c) = (m <<< u) * 2 ^ c := by rw [Nat.shiftLeft_add, Nat.shiftLeft_eq (m <<< u)]
  rw [this]
  cases s
  · simp only [Bool.false_eq_true, if_false]; exact Int.natCast_mul _ _
  · simp only [if_true]; rw [Int.natCast_mul, Int.neg_mul]
theorem compare_mul (x y : Int) (k : Nat) (hk : 0 < k) : compare (x * (k : Int)) (y * (k : Int)) = compare x y := by
  have hk' : (0 : Int) < (k : Int) := by omega
  show compareOfLessAndEq _ _ = compareOfLessAndEq _ _
  unfold compareOfLessAndEq
  have h1 : (x * (k : Int) < y * (k : Int)) ↔ x < y := Int.mul_lt_mul_right hk'
  have h2 : (x * (k : Int) = y * (k : Int)) ↔ x = y := ⟨fun h => Int.eq_of_mul_eq_mul_right (by omega) h, fun h => by rw [h]⟩
  simp only [h1, h2]
theorem order_at (s t : Bool) (m n : Nat) (i j c : Int) (hi : c ≤ i) (hj : c ≤ j) :
    Datum.order (.number s m i) (.number t n j) = some (compare (signed s m (i - c).toNat) (signed t n (j - c).toNat)) := by
  unfold Datum.order
  dsimp only
  rw [show (i - c).toNat = (i - min i j).toNat + (min i j - c).toNat by omega, show (j - c).toNat = (j - min i j).toNat + (min i j - c).toNat by omega,
    signed_mul, signed_mul, compare_mul _ _ _ (Nat.two_pow_pos _)]
theorem order_finer {d d' f f' : Datum} (h : Finer d d') (g : Finer f f') : d'.order f' = d.order f := by
  rcases h with ⟨s, rfl, rfl⟩ | ⟨s, m, i, a, rfl, rfl⟩ <;> rcases g with ⟨t, rfl, rfl⟩ | ⟨t, n, j, b, rfl, rfl⟩
  · rfl
  · rfl
  · rfl
  · rw [order_at s t (m <<< a) (n <<< b) (i - a) (j - b) (min (i - a) (j - b)) (Int.min_le_left _ _) (Int.min_le_right _ _),
      order_at s t m n i j (min (i - a) (j - b)) (by omega) (by omega), signed_shift, signed_shift]
    congr 3 <;> omega

theorem wide_order {x y u v : Nat} (hx : floatToFloatBits .f32 x .f64 = some u) (hy : floatToFloatBits .f32 y .f64 = some v)
    (nx : isNan .f32 x = false) (ny : isNan .f32 y = false) : double.order u v = single.order x y := by
  obtain ⟨r, h1, _, h3⟩ := widen x nx
  obtain ⟨q, g1, _, g3⟩ := widen y ny
  rw [hx] at h1; rw [hy] at g1; cases h1; cases g1
  exact order_finer h3 g3
/-! ### the order of numbers is that of their rungs -/
def val (f : Format) (r : Nat) : Nat := if r < f.binade then r else (f.binade + r % f.binade) * 2 ^ (r / f.binade - 1)

theorem val_succ (f : Format) (r : Nat) : val f r < val f (r + 1) := by
  have hB : 0 < f.binade := Nat.two_pow_pos _
  unfold val
  generalize f.binade = B at *
  by_cases h1 : r + 1 < B
  · rw [if_pos (by omega), if_pos h1]; omega
  · rw [if_neg h1]
    by_cases h2 : r < B
    · have : r + 1 = B := by omega
      rw [if_pos h2, this, Nat.mod_self, Nat.div_self hB]; simp; omega
    · rw [if_neg h2]
      have hdm := Nat.div_add_mod r B
      have hlt := Nat.mod_lt r hB
      have hq : 1 ≤ r / B := (Nat.le_div_iff_mul_le hB).2 (by omega)
      generalize r / B = q at *
      generalize r % B = s at *
      obtain ⟨p, rfl⟩ : ∃ p, q = p + 1 := ⟨q - 1, by omega⟩
      have hmm : B * (p + 1) = (p + 1) * B := Nat.mul_comm _ _
      by_cases h3 : s + 1 < B
      · have e1 : (r + 1) / B = p + 1 := by
          rw [show r + 1 = (s + 1) + (p + 1) * B by omega, Nat.add_mul_div_right _ _ hB, Nat.div_eq_of_lt h3]; omega
        have e2 : (r + 1) % B = s + 1 := by
          rw [show r + 1 = (s + 1) + (p + 1) * B by omega, Nat.add_mul_mod_self_right, Nat.mod_eq_of_lt h3]
        rw [e1, e2]
        exact Nat.mul_lt_mul_of_pos_right (by omega) (Nat.two_pow_pos _)
      · have hs : s + 1 = B := by omega
        have e0 : r + 1 = (p + 2) * B := by rw [show p + 2 = (p + 1) + 1 from rfl, Nat.add_mul, Nat.one_mul]; omega
        have e1 : (r + 1) / B = p + 2 := by rw [e0, Nat.mul_div_cancel _ hB]
        have e2 : (r + 1) % B = 0 := by rw [e0, Nat.mul_mod_left]
        rw [e1, e2, show p + 2 - 1 = p + 1 by omega, show p + 1 - 1 = p by omega, Nat.pow_succ, Nat.add_zero,
          show B * (2 ^ p * 2) = (2 * B) * 2 ^ p by rw [Nat.mul_comm (2 ^ p) 2, ← Nat.mul_assoc, Nat.mul_comm B 2]]
        exact Nat.mul_lt_mul_of_pos_right (by omega) (Nat.two_pow_pos _)

theorem val_lt (f : Format) {a b : Nat} (h : a < b) : val f a < val f b := by
  induction b with
  | zero => omega
  | succ b ih =>
    by_cases e : a = b
    · subst e; exact val_succ f a
    · exact Nat.lt_trans (ih (by omega)) (val_succ f b)
theorem binade_pos (f : Format) : 0 < f.binade := Nat.two_pow_pos _
theorem sw_pos (f : Format) : 0 < f.signWeight := Nat.two_pow_pos _
theorem val_zero (f : Format) : val f 0 = 0 := by unfold val; rw [if_pos (binade_pos f)]

/-- the signed rung -/
def sg (s : Bool) (r : Nat) : Int := if s then -(r : Int) else r
theorem sg_lt (f : Format) (s t : Bool) (a b : Nat) : sg s (val f a) < sg t (val f b) ↔ sg s a < sg t b := by
  have h1 : ∀ {a b : Nat}, val f a < val f b ↔ a < b := fun {a b} => ⟨fun h => by
    by_cases e : a < b
    · exact e
    · exfalso
      by_cases e2 : a = b
      · subst e2; omega
      · have := val_lt f (show b < a by omega); omega, val_lt f⟩
  have ha := @h1 0 a
  have hb := @h1 0 b
  have hab := @h1 a b
  have hba := @h1 b a
  rw [val_zero] at ha hb
  unfold sg
  cases s <;> cases t <;> simp only [Bool.false_eq_true, if_false, if_true] <;> omega
theorem compare_of_lt_iff {a b c d : Int} (h1 : a < b ↔ c < d) (h2 : b < a ↔ d < c) : compare a b = compare c d := by
  show compareOfLessAndEq _ _ = compareOfLessAndEq _ _
  unfold compareOfLessAndEq
  by_cases h : a < b
  · rw [if_pos h, if_pos (h1.1 h)]
  · rw [if_neg h, if_neg (fun x => h (h1.2 x))]
    by_cases e : b < a
    · rw [if_neg (by omega), if_neg (by have := h2.1 e; omega)]
    · rw [if_pos (by omega), if_pos (by have := mt h2.2 e; have := mt h1.2 h; omega)]

theorem read_word_fin (f : Format) (s : Bool) {r : Nat} (h : r < f.infRung) : ∃ m u, f.read (f.word s r) = .number s m (f.leastPlace + (u : Nat)) ∧ m <<< u = val f r := by
  have hl := f.infRung_lt
  have h1 : f.word s r % f.signWeight = r := by
    unfold Format.word
    split
    · rw [Nat.add_mod_left, Nat.mod_eq_of_lt (by omega)]
    · exact Nat.mod_eq_of_lt (by omega)
  have h2 : (f.word s r / f.signWeight % 2 == 1) = s := by
    unfold Format.word
    cases s
    · rw [if_neg (by decide), Nat.div_eq_of_lt (by omega)]; rfl
    · rw [if_pos rfl, Nat.add_div_left _ (sw_pos f), Nat.div_eq_of_lt (by omega)]; rfl
  unfold Format.read
  dsimp only
  rw [h1, h2]
  by_cases hb : r < f.binade
  · rw [if_pos hb]
    exact ⟨r, 0, by simp, by unfold val; rw [if_pos hb]; simp⟩
  · rw [if_neg hb, if_pos h]
    exact ⟨_, _, rfl, by unfold val; rw [if_neg hb, Nat.shiftLeft_eq]⟩
theorem read_word_inf (f : Format) (s : Bool) (hb : f.binade ≤ f.infRung) : f.read (f.word s f.infRung) = .infinity s := by
  have hl := f.infRung_lt
  have h1 : f.word s f.infRung % f.signWeight = f.infRung := by
    unfold Format.word
    split
    · rw [Nat.add_mod_left, Nat.mod_eq_of_lt (by omega)]
    · exact Nat.mod_eq_of_lt (by omega)
  have h2 : (f.word s f.infRung / f.signWeight % 2 == 1) = s := by
    unfold Format.word
    cases s
    · rw [if_neg (by decide), Nat.div_eq_of_lt (by omega)]; rfl
    · rw [if_pos rfl, Nat.add_div_left _ (sw_pos f), Nat.div_eq_of_lt (by omega)]; rfl
  unfold Format.read
  dsimp only
  rw [h1, h2, if_neg (by omega), if_neg (by omega), if_pos rfl]

theorem signed_sg (s : Bool) (m u : Nat) : signed s m u = sg s (m <<< u) := by
  unfold signed sg; rfl

theorem order_word (f : Format) (hB : f.binade ≤ f.infRung) (s t : Bool) {a b : Nat} (ha : a ≤ f.infRung) (hb : b ≤ f.infRung) (h0 : 0 < f.infRung) :
    f.order (f.word s a) (f.word t b) = some (compare (sg s a) (sg t b)) := by
  unfold Format.order
  by_cases ea : a = f.infRung
  · by_cases eb : b = f.infRung
    · rw [ea, eb, read_word_inf f s hB, read_word_inf f t hB]
      show some (compare t.toNat s.toNat) = _
      congr 1
      generalize f.infRung = R at *
      unfold sg
      cases s <;> cases t <;> simp only [Bool.false_eq_true, if_false, if_true, Bool.toNat_true, Bool.toNat_false] <;> (symm; first | (show compareOfLessAndEq _ _ = _; unfold compareOfLessAndEq; first | (rw [if_pos (by omega)]; rfl) | (rw [if_neg (by omega), if_pos (by omega)]; rfl) | (rw [if_neg (by omega), if_neg (by omega)]; rfl)))
    · obtain ⟨n, v, hn, _⟩ := read_word_fin f t (show b < f.infRung by omega)
      rw [ea, read_word_inf f s hB, hn]
      show some (if s then Ordering.lt else Ordering.gt) = _
      congr 1
      unfold sg
      cases s <;> cases t <;> simp only [Bool.false_eq_true, if_false, if_true] <;> (symm; show compareOfLessAndEq _ _ = _; unfold compareOfLessAndEq; first | rw [if_pos (by omega)] | rw [if_neg (by omega), if_neg (by omega)])
  · obtain ⟨m, u, hm, hmv⟩ := read_word_fin f s (show a < f.infRung by omega)
    by_cases eb : b = f.infRung
    · rw [eb, read_word_inf f t hB, hm]
      show some (if t then Ordering.gt else Ordering.lt) = _
      congr 1
      unfold sg
      cases s <;> cases t <;> simp only [Bool.false_eq_true, if_false, if_true] <;> (symm; show compareOfLessAndEq _ _ = _; unfold compareOfLessAndEq; first | rw [if_pos (by omega)] | rw [if_neg (by omega), if_neg (by omega)])
    · obtain ⟨n, v, hn, hnv⟩ := read_word_fin f t (show b < f.infRung by omega)
      rw [hm, hn, order_at s t m n _ _ f.leastPlace (by omega) (by omega), show (f.leastPlace + (u : Nat) - f.leastPlace).toNat = u by omega,
        show (f.leastPlace + (v : Nat) - f.leastPlace).toNat = v by omega, signed_sg, signed_sg, hmv, hnv]
      congr 1
      exact compare_of_lt_iff (sg_lt f s t a b) (sg_lt f t s b a)

/-- every number as a signed rung -/
def key (k : FloatKind) (b : Nat) : Int := sg (decide (k.format.signWeight ≤ b)) (b % k.format.signWeight)

theorem wf_lt (k : FloatKind) {b : Nat} (h : (Lit.float k b).wf = true) : b < 2 * k.format.signWeight := by
  cases k
  · rw [signWeight32]; have : b < 2 ^ 32 := by simpa [Lit.wf] using h
    omega
  · rw [signWeight64]; have : b < 2 ^ 64 := by simpa [Lit.wf] using h
    omega
theorem word_of (k : FloatKind) {b : Nat} (h : b < 2 * k.format.signWeight) : b = k.format.word (decide (k.format.signWeight ≤ b)) (b % k.format.signWeight) := by
  unfold Format.word
  by_cases e : k.format.signWeight ≤ b
  · rw [decide_eq_true e, if_pos rfl, Nat.mod_eq_sub_mod e, Nat.mod_eq_of_lt (by omega)]; omega
  · rw [decide_eq_false e, if_neg (by decide), Nat.mod_eq_of_lt (by omega)]
theorem isNan_iff (k : FloatKind) (b : Nat) : isNan k b = true ↔ k.format.infRung < b % k.format.signWeight := by
  refine ⟨fun h => ?_, isNan_of_rung k b⟩
  by_cases e : k.format.infRung < b % k.format.signWeight
  · exact e
  · unfold isNan Format.read at h
    dsimp only at h
    split at h
    · cases h
    · split at h
      · cases h
      · split at h
        · cases h
        · omega
theorem notNan_le {k : FloatKind} {b : Nat} (h : isNan k b = false) : b % k.format.signWeight ≤ k.format.infRung := by
  have := mt (isNan_iff k b).2
  rw [h] at this
  have := this (by decide)
  omega
theorem order_key (k : FloatKind) {x y : Nat} (wx : (Lit.float k x).wf = true) (wy : (Lit.float k y).wf = true) (hx : isNan k x = false) (hy : isNan k y = false) :
    k.format.order x y = some (compare (key k x) (key k y)) := by
  have h := order_word k.format (by cases k <;> decide +kernel) (decide (k.format.signWeight ≤ x)) (decide (k.format.signWeight ≤ y)) (notNan_le hx) (notNan_le hy) (by cases k <;> decide +kernel)
  rw [← word_of k (wf_lt k wx), ← word_of k (wf_lt k wy)] at h
  exact h

theorem wide_nan {u r : Nat} (h : FconvR .f32 u .f64 r) : isNan .f64 r = isNan .f32 u := by
  cases hn : isNan .f32 u with
  | false =>
    obtain ⟨q, h1, h2, _⟩ := widen u hn
    rcases h with h | ⟨h, _⟩
    · rw [h1] at h; cases h; exact h2
    · rw [h1] at h; cases h
  | true =>
    rcases h with h | ⟨_, h, _⟩
    · have : floatToFloatBits .f32 u .f64 = none := by
        obtain ⟨s, t, e⟩ := isNaN_iff hn
        unfold floatToFloatBits
        rw [if_neg (by decide), show FloatKind.f32.decode u = _ from e]
      rw [this] at h; cases h
    · exact h hn
theorem wide_some {u r : Nat} (h : FconvR .f32 u .f64 r) (hn : isNan .f32 u = false) : floatToFloatBits .f32 u .f64 = some r := by
  obtain ⟨q, h1, h2, _⟩ := widen u hn
  rcases h with h | ⟨h, _⟩
  · exact h
  · rw [h1] at h; cases h
theorem FopR.wf {op : BinOp} {k : FloatKind} {x y r : Nat} (h : FopR op k x y r) : (Lit.float k r).wf = true := by
  rcases h with h | ⟨_, _, h⟩
  · exact floatBits_wf h
  · exact h
theorem FconvR.wf {s k : FloatKind} {b r : Nat} (hb : (Lit.float s b).wf = true) (h : FconvR s b k r) : (Lit.float k r).wf = true := by
  rcases h with h | ⟨_, _, h⟩
  · exact floatToFloatBits_wf hb h
  · exact h
/-- the same number, all not-a-numbers told as one -/
def SameF (k : FloatKind) (a b : Nat) : Prop := cn k a = cn k b
theorem SameF.cases {k : FloatKind} {a b : Nat} (h : SameF k a b) : (isNan k a = true ∧ isNan k b = true) ∨ (isNan k a = false ∧ isNan k b = false ∧ a = b) := by
  have h' := congrArg (isNan k) h
  rw [isNan_cn, isNan_cn] at h'
  cases ha : isNan k a with
  | true => exact .inl ⟨rfl, by rw [← h', ha]⟩
  | false =>
    have hb : isNan k b = false := by rw [← h', ha]
    unfold SameF at h
    rw [cn_notNan ha, cn_notNan hb] at h
    exact .inr ⟨rfl, hb, h⟩
theorem SameF.wide {a b r q : Nat} (h : SameF .f32 a b) (ha : FconvR .f32 a .f64 r) (hb : FconvR .f32 b .f64 q) : SameF .f64 r q := by
  rcases h.cases with ⟨h1, h2⟩ | ⟨h1, h2, rfl⟩
  · have e1 := wide_nan ha
    have e2 := wide_nan hb
    rw [h1] at e1; rw [h2] at e2
    show cn _ r = cn _ q
    rw [cn_nan e1, cn_nan e2]
  · have e1 := wide_some ha h1
    have e2 := wide_some hb h2
    rw [e1] at e2; cases e2; rfl
theorem order_same (k : FloatKind) {a b c : Nat} (h : SameF k a b) : k.format.order a c = k.format.order b c := by
  rw [← order_cn k a c, ← order_cn k b c, h]
theorem fop_same {op : BinOp} {k : FloatKind} {x y x' y' r r' : Nat} (h : FopR op k x y r) (h' : FopR op k x' y' r') (hx : SameF k x x') (hy : SameF k y y') : SameF k r r' := by
  show cn k r = cn k r'
  rw [cn_of_cn h, cn_of_cn h', hx, hy]
end Fl
end Go.Proofs.Ytfihnnhgegdjkaa
