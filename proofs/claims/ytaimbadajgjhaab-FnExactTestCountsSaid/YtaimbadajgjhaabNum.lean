/- Contracts of the small functions on numbers: bits, tests for not-a-numbers and infinities, the sign, and the comparison that the exact laws end with. -/
import Derived.Test.YtaimbadajgjhaabFl
import Derived.Test.YtaimbadajgjhaabCk
import Derived.Test.YtaimbadajgjhaabChecked
import Derived.WalkKit
import Derived.ProofKit
namespace Go.Proofs.Ytaimbadajgjhaab
open Go.RowKit Fl


theorem ret_float {k : FloatKind} {a b : Nat} (h : a = b) : Ending.returned (.float k a) = .returned (.float k b) := by rw [h]
theorem neq_nan (k : FloatKind) (u : Nat) : (k.format.order u u != some .eq) = isNan k u := by
  have := order_self_eq k u
  rw [bne, this, Bool.not_not]




/-- the comparison that the exact laws end with -/
theorem sameFloat_any (a b : Nat) (h : SameF .f64 a b) (w : World) : Calls Try.prog 34 #[.float .f64 a, .float .f64 b] w fun e w' => e = .returned (.bool true) ∧ ∃ n, w' = w.drewN n := by
  have na := neq_nan .f64 a
  have nb := neq_nan .f64 b
  rcases h.cases with ⟨h1, h2⟩ | ⟨h1, h2, rfl⟩
  · rw [h1] at na
    rw [h2] at nb
    clear h h1 h2
    go_enter Try.func34, Try.ntmps34
    go_wp2
    go_ret
    exact ⟨rfl, 0, rfl⟩
  · rw [h1] at na
    have ea : (FloatKind.f64.format.order a a == some .eq) = true := by rw [order_self_eq, h1]; rfl
    clear nb h2 h
    cases hz : (FloatKind.f64.format.order a 0 == some .eq)
    · go_enter Try.func34, Try.ntmps34
      go_wp2
      go_ret
      exact ⟨rfl, 0, rfl⟩
    · go_enter Try.func34, Try.ntmps34
      go_wp2_with (refine wpList_farith rfl .quo _ _ _ _ rfl (by simp) .f64 _ _ rfl rfl ?_; intro r n hr)
      rename_i r1 n1 hr1
      have e := order_same .f64 (c := 0) (fop_same hr1 hr rfl rfl)
      go_ret
      exact ⟨ret_bool (by rw [e]; simp), _, rfl⟩

theorem wf32 {b : Nat} (h : (Lit.float .f32 b).wf = true) : b < 4294967296 := by simpa [Lit.wf] using h
theorem wf64 {b : Nat} (h : (Lit.float .f64 b).wf = true) : b < 18446744073709551616 := by simpa [Lit.wf] using h
end Go.Proofs.Ytaimbadajgjhaab
