/- Contracts: how many people share a birthday with a half, in both texts. -/
import Derived.Test.YticocfoheenmdaaQa
import Derived.Test.YticocfoheenmdaaNum
set_option linter.unusedVariables false
namespace Go.Proofs.Yticocfoheenmdaa
open Go.RowKit Fl Ieee

def zz (s : Bool) : Nat := if s then 9223372036854775808 else 0
theorem read_zz (s : Bool) : FloatKind.f64.format.read (zz s) = .number s 0 (-1074) := by cases s <;> decide +kernel
theorem write_zero (s : Bool) (e : Int) : FloatKind.f64.format.write (.number s 0 e) = zz s := by
  show FloatKind.f64.format.nearest s 0 e = zz s
  unfold Format.nearest
  rw [if_pos rfl]
  cases s <;> decide +kernel
/-- a zero, or no number -/
def nought (r : Nat) : Prop := isNan .f64 r = true ∨ ∃ s, r = zz s
theorem nought_order {r : Nat} (h : nought r) : (FloatKind.f64.format.order r 4602678819172646912 == some .gt) = false := by
  rcases h with h | ⟨s, rfl⟩
  · rw [order_nan_left h]; rfl
  · cases s <;> decide +kernel
theorem quo_nought {y q : Nat} (h : FopR .quo .f64 0 y q) : nought q := by
  rcases h with h | ⟨-, h, -⟩
  · have h' : ((FloatKind.f64.format.read (zz false)).quotient (FloatKind.f64.format.fractionBits + 2) (FloatKind.f64.format.read y)).map FloatKind.f64.format.write = some q := h
    rw [read_zz] at h'
    right
    cases hy : FloatKind.f64.format.read y with
    | nan s u => rw [hy] at h'; simp [Datum.quotient] at h'
    | infinity s => rw [hy] at h'; simp [Datum.quotient, write_zero] at h'; exact ⟨_, h'.symm⟩
    | number s m e =>
      rw [hy] at h'
      by_cases h0 : m = 0
      · simp [Datum.quotient, h0] at h'
      · simp [Datum.quotient, h0, write_zero] at h'; exact ⟨_, h'.symm⟩
  · exact .inl h
theorem mul_nought {x y r : Nat} (hy : nought y) (h : FopR .mul .f64 x y r) : nought r := by
  rcases h with h | ⟨-, h, -⟩
  · rcases hy with hy | ⟨t, rfl⟩
    · rw [floatBits_nan_right hy] at h; cases h
    · have h' : ((FloatKind.f64.format.read x).product (FloatKind.f64.format.read (zz t))).map FloatKind.f64.format.write = some r := h
      rw [read_zz] at h'
      right
      cases hx : FloatKind.f64.format.read x with
      | nan s u => rw [hx] at h'; simp [Datum.product] at h'
      | infinity s => rw [hx] at h'; simp [Datum.product] at h'
      | number s m e => rw [hx] at h'; simp [Datum.product, write_zero] at h'; exact ⟨_, h'.symm⟩
  · exact .inl h
/-- r may be how likely no two of k have one birthday -/
def SeqF (d : Int) : Nat → Nat → Prop
  | 0, r => r = 4607182418800017408
  | k + 1, r => ∃ p q, SeqF d k p ∧ FopR .quo .f64 (floatOfInt .f64 (d - (k : Int))) (floatOfInt .f64 d) q ∧ FopR .mul .f64 p q r
theorem SeqF.same {d : Int} : ∀ {k r t : Nat}, SeqF d k r → SeqF d k t → SameF .f64 r t
  | 0, r, t, h, g => by
    have h : r = _ := h
    have g : t = _ := g
    rw [h, g]; rfl
  | k + 1, r, t, ⟨p, q, h1, h2, h3⟩, ⟨p', q', g1, g2, g3⟩ => fop_same h3 g3 (SeqF.same h1 g1) (fop_same h2 g2 rfl rfl)
def gtH (r : Nat) : Bool := FloatKind.f64.format.order r 4602678819172646912 == some .gt
theorem SeqF.gt {d : Int} {k r t : Nat} (h : SeqF d k r) (g : SeqF d k t) : gtH r = gtH t := by unfold gtH; rw [order_same .f64 (h.same g)]
theorem zero64 : floatOfInt .f64 0 = 0 := by decide +kernel
theorem SeqF.last {d : Nat} {r : Nat} (h : SeqF (d : Int) (d + 1) r) : gtH r = false := by
  obtain ⟨p, q, -, h2, h3⟩ := h
  rw [Int.sub_self, zero64] at h2
  exact nought_order (mul_nought (quo_nought h2) h3)
/-- n is how many -/
def LeastR (d : Int) (n : Nat) : Prop := (∀ j, j < n → ∃ r, SeqF d j r ∧ gtH r = true) ∧ ∃ r, SeqF d n r ∧ gtH r = false
theorem LeastR.same {d : Int} {n m : Nat} (h : LeastR d n) (g : LeastR d m) : n = m := by
  obtain ⟨h1, r, h2, h3⟩ := h
  obtain ⟨g1, t, g2, g3⟩ := g
  rcases Nat.lt_trichotomy n m with c | c | c
  · obtain ⟨u, u1, u2⟩ := g1 n c
    rw [h2.gt u1, u2] at h3; cases h3
  · exact c
  · obtain ⟨u, u1, u2⟩ := h1 m c
    rw [g2.gt u1, u2] at g3; cases g3
theorem FopR.some {op : BinOp} {k : FloatKind} (x y : Nat) : ∃ r, FopR op k x y r := by
  cases h : floatBits op k x y with
  | some r => exact ⟨r, .inl h⟩
  | none => exact ⟨nanOf k, .inr ⟨h, isNan_nanOf k, by cases k <;> decide +kernel⟩⟩
theorem SeqF.some (d : Int) : ∀ k, ∃ r, SeqF d k r
  | 0 => ⟨_, rfl⟩
  | k + 1 => by
    obtain ⟨p, hp⟩ := SeqF.some d k
    obtain ⟨q, hq⟩ := FopR.some (op := .quo) (k := .f64) (floatOfInt .f64 (d - (k : Int))) (floatOfInt .f64 d)
    obtain ⟨r, hr⟩ := FopR.some (op := .mul) (k := .f64) p q
    exact ⟨r, p, q, hp, hq, hr⟩
theorem least_some (d : Nat) : ∃ n, LeastR (d : Int) n := by
  have key : ∀ f k, k + f = d + 1 → (∀ j, j < k → ∃ r, SeqF (d : Int) j r ∧ gtH r = true) → ∃ n, LeastR (d : Int) n := by
    intro f
    induction f with
    | zero =>
      intro k hk h
      obtain ⟨r, hr⟩ := SeqF.some (d : Int) k
      have e : k = d + 1 := by omega
      subst e
      exact ⟨d + 1, h, r, hr, hr.last⟩
    | succ f ih =>
      intro k hk h
      obtain ⟨r, hr⟩ := SeqF.some (d : Int) k
      cases hg : gtH r
      · exact ⟨k, h, r, hr, hg⟩
      · refine ih (k + 1) (by omega) fun j hj => ?_
        by_cases e : j = k
        · subst e; exact ⟨r, hr, hg⟩
        · exact h j (by omega)
  exact key (d + 1) 0 (by omega) (fun j hj => by omega)
set_option maxHeartbeats 1000000 in
theorem least_impl (d : Nat) (w : World) (h1 : 1 ≤ d) (h2 : d ≤ 1000000) :
    Calls Try.prog 20 #[.int .i64 (d : Int)] w fun e w' => ∃ n : Nat, e = .returned (.tuple #[.int .i64 (n : Int), .bool true]) ∧ LeastR (d : Int) n ∧ Drawn w w' := by
  have H0 := Lib.hid (within_yes (d : Int) 1 1000000 w (by omega) (by omega))
  have HS : Hid (∀ k p q r, SeqF (d : Int) k p → FopR .quo .f64 (floatOfInt .f64 ((d : Int) - (k : Int))) (floatOfInt .f64 (d : Int)) q → FopR .mul .f64 p q r → SeqF (d : Int) (k + 1) r) := Lib.hid (fun k p q r a b c => ⟨p, q, a, b, c⟩)
  have HL : Hid (∀ r, SeqF (d : Int) (d + 1) r → gtH r = false) := Lib.hid (fun r h => h.last)
  have HG : Hid (∀ r, gtH r = (FloatKind.f64.format.order r 4602678819172646912 == some .gt)) := Lib.hid (fun _ => rfl)
  go_enter Try.func20, Try.ntmps20
  go_wp2_with fail
  refine H0.out.mono ?_
  rintro e w' ⟨rfl, rfl⟩
  go_wp2
  go_loopw [4, 5] (fun i x wr => ∃ k r : Nat, k ≤ d + 1 ∧ i = .int .i64 (k : Int) ∧ x = .float .f64 r ∧ Hid (SeqF (d : Int) k r ∧ ∀ j, j < k → ∃ r, SeqF (d : Int) j r ∧ gtH r = true) ∧ Drawn w wr) (fun i _ _ => d + 1 - (intOf i).toNat)
  case atStart => exact ⟨0, _, Nat.zero_le _, rfl, rfl, Lib.hid ⟨rfl, fun j hj => by omega⟩, Drawn.refl _⟩
  case round =>
    obtain ⟨k, r, hk, rfl, rfl, hs, hd⟩ := hrel
    have Hd := Lib.hid hd
    clear hd
    cases hg : (FloatKind.f64.format.order r 4602678819172646912 == some .gt)
    · have HN : Hid (LeastR (d : Int) k) := Lib.hid ⟨hs.out.2, r, hs.out.1, (HG.out r).trans hg⟩
      go_wp2
      go_ret2
      exact ⟨k, rfl, HN.out, Hd.out⟩
    · have hkd : k ≤ d := by
        by_cases e : k = d + 1
        · have := HL.out r (by rw [← e]; exact hs.out.1)
          rw [HG.out r, hg] at this; cases this
        · omega
      go_wp2_with (first | (refine wpList_farith rfl .quo _ _ _ _ rfl (by simp) .f64 (floatOfInt .f64 ((d : Int) - (k : Int))) (floatOfInt .f64 (d : Int)) rfl rfl ?_; intro q nq Hq) | (refine wpList_farith rfl .mul _ _ _ _ rfl (by simp) .f64 r q rfl rfl ?_; intro p np Hp))
      go_roundw
      case rel => exact ⟨k + 1, p, by omega, by go_num, rfl, Lib.hid ⟨HS.out k r q p hs.out.1 Hq.out Hp.out, fun j hj => by
        by_cases e : j = k
        · subst e; exact ⟨r, hs.out.1, (HG.out r).trans hg⟩
        · exact hs.out.2 j (by omega)⟩, Drawn.trans Hd.out ⟨_, rfl⟩⟩
      case measure => simp [intOf]; omega
