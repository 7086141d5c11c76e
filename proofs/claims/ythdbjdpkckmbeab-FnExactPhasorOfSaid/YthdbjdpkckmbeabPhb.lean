/- Numbers of two parts, widened and compared. -/
import Derived.Test.YthdbjdpkckmbeabPha
set_option linter.unusedVariables false
namespace Go.Proofs.Ythdbjdpkckmbeab
namespace Fl
open Ieee

theorem run_ftf {P : Program} (s k : FloatKind) (b : Nat) (w : World) :
    ∃ r n, FconvR s b k r ∧ (Conv.floatToFloat s b k).run P w = .ok (.float k r) (w.drewN n) := by
  by_cases ne : s = k
  · subst ne
    refine ⟨b, 0, .inl (by unfold floatToFloatBits; rw [if_pos rfl]), ?_⟩
    simp [Conv.floatToFloat]
    rfl
  · cases h : floatToFloatBits s b k with
    | some r =>
      refine ⟨r, 0, .inl h, ?_⟩
      unfold floatToFloatBits at h
      rw [if_neg ne] at h
      split at h
      · cases h
      · rename_i sg he
        simp only [Option.some.injEq] at h
        simp [Conv.floatToFloat, ne, he, h]
        rfl
      · rename_i sg m e he
        split at h
        · cases h
        · rename_i ho
          simp only [Option.some.injEq] at h
          subst h
          simp [Conv.floatToFloat, ne, he, ho]
          rfl
    | none =>
      unfold floatToFloatBits at h
      split at h
      · cases h
      · split at h
        · rename_i sg fr he
          refine ⟨(Question.nanConv k b).cut (w.tape w.drawn (.nanConv k b)), 1, .inr ⟨by unfold floatToFloatBits; rw [if_neg ne, he], fun _ => nanConv_isNan _ _ _, nanConv_wf _ _ _⟩, ?_⟩
          simp [Conv.floatToFloat, ne, he] <;> rfl
        · cases h
        · rename_i sg m e he
          split at h
          · rename_i ho
            refine ⟨(Question.floatToFloat b).cut (w.tape w.drawn (.floatToFloat b)), 1, .inr ⟨by unfold floatToFloatBits; rw [if_neg ne, he]; simp only [ho, if_true], fun hn => ?_, overflow_wf _ _ _⟩, ?_⟩
            · have : isNan s b = false := by unfold isNan; rw [show s.format.read b = _ from he]; rfl
              rw [this] at hn; cases hn
            · simp [Conv.floatToFloat, ne, he, ho] <;> rfl
          · cases h

theorem run_cconv {P : Program} (src dst : TypeId) (s k : FloatKind) (a b : Nat) (hs : (P.underlying src).isSome = true) (hd : P.underlying dst = some (.complex k)) (w : World) :
    ∃ r q n, FconvR s a k r ∧ FconvR s b k q ∧ (convert src dst (.complex s a b)).run P w = .ok (.complex k r q) (w.drewN n) := by
  obtain ⟨u, hs'⟩ := Option.isSome_iff_exists.1 hs
  obtain ⟨r, n, hr, hr2⟩ := run_ftf (P := P) s k a w
  obtain ⟨q, m, hq, hq2⟩ := run_ftf (P := P) s k b (w.drewN n)
  refine ⟨r, q, n + m, hr, hq, ?_⟩
  have hdd : (w.drewN n).drewN m = w.drewN (n + m) := by simp [World.drewN, Nat.add_assoc]
  rw [hdd] at hq2
  cases u <;> simp [convert, run_underlying hs', run_underlying hd, Conv.complexToComplex, hr2, hq2] <;> rfl

theorem wpList_cconv {P : Program} {w : World} {ops : Array Oper} {rest : List Oper} {o : Oper} {a : Act} {Q : Exit → Act → World → Prop}
    (hgd : Region.wanted o (yielded ops a.tmps) = true) (src dst : TypeId) (x : Operand) (ho : o.op = .convert src dst x) (s k : FloatKind)
    (hs : (P.underlying src).isSome = true) (hd : P.underlying dst = some (.complex k)) (b c : Nat) (hx : a.eval x = .complex s b c)
    (h : ∀ r q n, RowKit.Hid (FconvR s b k r) → RowKit.Hid (FconvR s c k q) → wpList P ops Q rest (a.put o.dst (.complex k r q)) (w.drewN n)) : wpList P ops Q (o :: rest) a w := by
  refine wpList_wanted hgd fun K hK => ?_
  obtain ⟨r, q, n, hr, hq, hrun⟩ := run_cconv (P := P) src dst s k b c hs hd w
  unfold Oper.wp
  simp [execOp, ho, hx, hrun, Result.andThen]
  exact hK _ _ (h r q n hr hq)
end Fl
open Go.RowKit Fl
theorem sameComplex_any (a b c d : Nat) (h : SameF .f64 a c) (g : SameF .f64 b d) (w : World) : Calls Try.prog 14 #[.complex .f64 a b, .complex .f64 c d] w fun e w' => e = .returned (.bool true) ∧ ∃ n, w' = w.drewN n := by
  go_enter Try.func14, Try.ntmps14
  go_wp2_with (go_at_call 11; first | ((with_reducible refine (sameFloat_any a c h _).mono ?_); rintro e w' ⟨rfl, n1, rfl⟩) | ((with_reducible refine (sameFloat_any b d g _).mono ?_); rintro e w' ⟨rfl, n1, rfl⟩))
  go_ret
  exact ⟨rfl, _, rfl⟩
end Go.Proofs.Ythdbjdpkckmbeab
