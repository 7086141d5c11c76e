/- Contracts of the small functions on numbers: bits, tests for not-a-numbers and infinities, the sign, and the comparison that the exact laws end with. -/
import Derived.Test.YtcoehcoohppbjaaFl
import Derived.Test.YtcoehcoohppbjaaCk
import Derived.Test.YtcoehcoohppbjaaChecked
import Derived.WalkKit
import Derived.ProofKit
namespace Go.Proofs.Ytcoehcoohppbjaa
open Go.RowKit Fl

@[go_sem] theorem x_f64bits (b : Nat) (w : World) : (callFunc 194 #[.float .f64 b]).run Try.prog w = .ok (.value (.int .u64 (b : Int))) w := by
  rw [run_callFunc_extern Try.func194 (by kernel_rfl) (by kernel_rfl) (by kernel_rfl) (by kernel_rfl : _ = some Extern.MathFloatBits.float64bits)]; rfl
@[go_sem] theorem x_f64from (n : Int) (w : World) : (callFunc 193 #[.int .u64 n]).run Try.prog w = .ok (.value (.float .f64 n.toNat)) w := by
  rw [run_callFunc_extern Try.func193 (by kernel_rfl) (by kernel_rfl) (by kernel_rfl) (by kernel_rfl : _ = some Extern.MathFloatBits.float64frombits)]; rfl

theorem ret_float {k : FloatKind} {a b : Nat} (h : a = b) : Ending.returned (.float k a) = .returned (.float k b) := by rw [h]
theorem neq_nan (k : FloatKind) (u : Nat) : (k.format.order u u != some .eq) = isNan k u := by
  have := order_self_eq k u
  rw [bne, this, Bool.not_not]

theorem isNaN_any (u : Nat) (w : World) : Calls Try.prog 184 #[.float .f64 u] w fun e w' => e = .returned (.bool (isNan .f64 u)) ∧ w = w' := by
  go_enter Try.func184, Try.ntmps184
  go_wp2
  go_ret
  exact ⟨ret_bool (neq_nan .f64 u), rfl⟩



/-- the comparison that the exact laws end with -/
theorem sameFloat_any (a b : Nat) (h : SameF .f64 a b) (w : World) : Calls Try.prog 94 #[.float .f64 a, .float .f64 b] w fun e w' => e = .returned (.bool true) ∧ ∃ n, w' = w.drewN n := by
  have na := neq_nan .f64 a
  have nb := neq_nan .f64 b
  rcases h.cases with ⟨h1, h2⟩ | ⟨h1, h2, rfl⟩
  · rw [h1] at na
    rw [h2] at nb
    clear h h1 h2
    go_enter Try.func94, Try.ntmps94
    go_wp2
    go_ret
    exact ⟨rfl, 0, rfl⟩
  · rw [h1] at na
    have ea : (FloatKind.f64.format.order a a == some .eq) = true := by rw [order_self_eq, h1]; rfl
    clear nb h2 h
    cases hz : (FloatKind.f64.format.order a 0 == some .eq)
    · go_enter Try.func94, Try.ntmps94
      go_wp2
      go_ret
      exact ⟨rfl, 0, rfl⟩
    · go_enter Try.func94, Try.ntmps94
      go_wp2_with (refine wpList_farith rfl .quo _ _ _ _ rfl (by simp) .f64 _ _ rfl rfl ?_; intro r n hr)
      rename_i r1 n1 hr1
      have e := order_same .f64 (c := 0) (fop_same hr1 hr rfl rfl)
      go_ret
      exact ⟨ret_bool (by rw [e]; simp), _, rfl⟩

theorem wf32 {b : Nat} (h : (Lit.float .f32 b).wf = true) : b < 4294967296 := by simpa [Lit.wf] using h
theorem wf64 {b : Nat} (h : (Lit.float .f64 b).wf = true) : b < 18446744073709551616 := by simpa [Lit.wf] using h
end Go.Proofs.Ytcoehcoohppbjaa
