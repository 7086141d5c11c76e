/- Contracts of the small functions on numbers: bits, tests for not-a-numbers and infinities, the sign, and the comparison that the exact laws end with. -/
import Derived.Test.YtcoehcoohppbjacFl
import Derived.Test.YtcoehcoohppbjacCk
import Derived.Test.YtcoehcoohppbjacChecked
import Derived.WalkKit
import Derived.ProofKit
namespace Go.Proofs.Ytcoehcoohppbjac
open Go.RowKit Fl

@[go_sem] theorem x_f32bits (b : Nat) (w : World) : (callFunc 56 #[.float .f32 b]).run Try.prog w = .ok (.value (.int .u32 (b : Int))) w := by
  rw [run_callFunc_extern Try.func56 (by kernel_rfl) (by kernel_rfl) (by kernel_rfl) (by kernel_rfl : _ = some Extern.MathFloatBits.float32bits)]; rfl

theorem ret_float {k : FloatKind} {a b : Nat} (h : a = b) : Ending.returned (.float k a) = .returned (.float k b) := by rw [h]
theorem neq_nan (k : FloatKind) (u : Nat) : (k.format.order u u != some .eq) = isNan k u := by
  have := order_self_eq k u
  rw [bne, this, Bool.not_not]

theorem isNaN_any (u : Nat) (w : World) : Calls Try.prog 55 #[.float .f64 u] w fun e w' => e = .returned (.bool (isNan .f64 u)) ∧ w = w' := by
  go_enter Try.func55, Try.ntmps55
  go_wp2
  go_ret
  exact ⟨ret_bool (neq_nan .f64 u), rfl⟩

theorem l01Bits_any (u : Nat) (hu : u < 4294967296) (w : World) : Calls Try.prog 53 #[.float .f32 u] w fun e w' => e = .returned (.int .i64 (cn .f32 u)) ∧ w = w' := by
  cases hn : isNan .f32 u
  all_goals
    have h1 := neq_nan .f32 u
    rw [hn] at h1
    go_enter Try.func53, Try.ntmps53
    go_wp2
    go_ret
    refine ⟨ret_int ?_, rfl⟩
    first | (rw [cn_notNan hn]; done) | (rw [cn_nan hn]; rfl)

theorem bitsOf_any (u : Nat) (hu : u < 4294967296) (w : World) : Calls Try.prog 40 #[.float .f32 u] w fun e w' => e = .returned (.int .i64 (cn .f32 u)) ∧ ∃ n, w' = w.drewN n := by
  go_enter Try.func40, Try.ntmps40
  go_wp2_with (first | (refine wpList_fconv rfl _ _ _ rfl .f32 .f64 (by kernel_rfl) (by kernel_rfl) _ rfl ?_; intro r n hr) | (go_at_call 55; refine (isNaN_any _ _).mono ?_; rintro e w' ⟨rfl, rfl⟩))
  · rename_i h
    have hn := (wide_nan hr).symm.trans h
    go_ret
    exact ⟨ret_int (by rw [cn_nan hn]; rfl), _, rfl⟩
  · rename_i h
    have hn := (wide_nan hr).symm.trans h
    go_ret
    exact ⟨ret_int (by rw [cn_notNan hn]), _, rfl⟩

/-- the comparison that the exact laws end with -/
theorem sameFloat_any (a b : Nat) (h : SameF .f64 a b) (w : World) : Calls Try.prog 24 #[.float .f64 a, .float .f64 b] w fun e w' => e = .returned (.bool true) ∧ ∃ n, w' = w.drewN n := by
  have na := neq_nan .f64 a
  have nb := neq_nan .f64 b
  rcases h.cases with ⟨h1, h2⟩ | ⟨h1, h2, rfl⟩
  · rw [h1] at na
    rw [h2] at nb
    clear h h1 h2
    go_enter Try.func24, Try.ntmps24
    go_wp2
    go_ret
    exact ⟨rfl, 0, rfl⟩
  · rw [h1] at na
    have ea : (FloatKind.f64.format.order a a == some .eq) = true := by rw [order_self_eq, h1]; rfl
    clear nb h2 h
    cases hz : (FloatKind.f64.format.order a 0 == some .eq)
    · go_enter Try.func24, Try.ntmps24
      go_wp2
      go_ret
      exact ⟨rfl, 0, rfl⟩
    · go_enter Try.func24, Try.ntmps24
      go_wp2_with (refine wpList_farith rfl .quo _ _ _ _ rfl (by simp) .f64 _ _ rfl rfl ?_; intro r n hr)
      rename_i r1 n1 hr1
      have e := order_same .f64 (c := 0) (fop_same hr1 hr rfl rfl)
      go_ret
      exact ⟨ret_bool (by rw [e]; simp), _, rfl⟩

theorem wf32 {b : Nat} (h : (Lit.float .f32 b).wf = true) : b < 4294967296 := by simpa [Lit.wf] using h
theorem wf64 {b : Nat} (h : (Lit.float .f64 b).wf = true) : b < 18446744073709551616 := by simpa [Lit.wf] using h
end Go.Proofs.Ytcoehcoohppbjac
