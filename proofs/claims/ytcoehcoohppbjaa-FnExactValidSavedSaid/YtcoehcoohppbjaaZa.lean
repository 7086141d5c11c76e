/- Contracts: hands of tiles, in both texts. -/
import Derived.Test.YtcoehcoohppbjaaYc
import Derived.Deep.RegionLaw
import Derived.Deep.RegionHeld3
set_option linter.unusedVariables false
namespace Go.Proofs.Ytcoehcoohppbjaa
open Go.RowKit

/-- the sum of the first k numbers -/
def sumI (fs : List Int) : Nat → Int
  | 0 => 0
  | k + 1 => sumI fs k + fs.getD k 0
theorem sumI_bd (fs : List Int) (h : ∀ i, i < fs.length → 0 ≤ fs.getD i 0 ∧ fs.getD i 0 ≤ 4) : ∀ k, k ≤ fs.length → 0 ≤ sumI fs k ∧ sumI fs k ≤ 4 * k
  | 0, _ => ⟨Int.le_refl _, by simp [sumI]⟩
  | k + 1, hk => by
    have h1 := sumI_bd fs h k (by omega)
    have h2 := h k (by omega)
    rw [sumI]; omega
set_option maxHeartbeats 1000000 in
theorem sumOf_any (fs : List Int) (v : Value) (w : World) (hn : fs.length ≤ 100) (hb : ∀ i, i < fs.length → 0 ≤ fs.getD i 0 ∧ fs.getD i 0 ≤ 4) (h : Sl (Value.int .i64) 0 w v fs) :
    Calls Try.prog 154 #[v] w fun e w' => e = .returned (.int .i64 (sumI fs fs.length)) ∧ w = w' := by
  have Hs := Lib.hid (sumI_bd fs hb)
  have HB := Lib.hid hb
  have Hst := Lib.hid (fun k => show sumI fs (k + 1) = sumI fs k + fs.getD k 0 from rfl)
  have H0 := Lib.hid (show sumI fs 0 = 0 from rfl)
  obtain ⟨p, cap, rfl, hf⟩ := h
  have Hf := Lib.hid hf
  clear hf hb
  generalize sumI fs = S at *
  obtain ⟨n, hn1⟩ : ∃ n, n = fs.length := ⟨_, rfl⟩
  rw [← hn1] at hn Hf HB Hs ⊢
  clear hn1
  go_enter Try.func154, Try.ntmps154
  go_wp2
  go_loop [3, 8] (fun s i => ∃ k : Nat, k ≤ n ∧ i = .int .i64 (k : Int) ∧ s = .int .i64 (S k)) (fun _ i => n - (intOf i).toNat)
  case atStart => exact ⟨0, Nat.zero_le _, rfl, by rw [H0.out]⟩
  case round =>
    obtain ⟨k, hk, rfl, rfl⟩ := hrel
    by_cases hlt : k < n
    · obtain ⟨hcap, b, off, rfl, hbs, hc⟩ := Hf.out (by omega)
      have c1 := hc k hlt
      obtain ⟨b0, b1⟩ := HB.out k hlt
      obtain ⟨s0, s1⟩ := Hs.out k hk
      have Hst2 := Lib.hid (Hst.out k)
      clear hc
      generalize fs.getD k 0 = x at *
      generalize S k = y at *
      go_wp2
      go_round
      case rel => exact ⟨k + 1, by omega, by go_num, by rw [Hst2.out]⟩
      case measure => simp [intOf]; omega
    · obtain rfl : k = n := by omega
      go_wp2
      go_ret
      exact ⟨rfl, rfl⟩
set_option maxHeartbeats 1000000 in
theorem sumS_any (fs : List Int) (v : Value) (w : World) (hn : fs.length ≤ 100) (hb : ∀ i, i < fs.length → 0 ≤ fs.getD i 0 ∧ fs.getD i 0 ≤ 4) (h : Sl (Value.int .i64) 0 w v fs) :
    Calls Try.prog 152 #[v] w fun e w' => e = .returned (.int .i64 (sumI fs fs.length)) ∧ w = w' := by
  have Hs := Lib.hid (sumI_bd fs hb)
  have HB := Lib.hid hb
  have Hst := Lib.hid (fun k => show sumI fs (k + 1) = sumI fs k + fs.getD k 0 from rfl)
  have H0 := Lib.hid (show sumI fs 0 = 0 from rfl)
  obtain ⟨p, cap, rfl, hf⟩ := h
  have Hf := Lib.hid hf
  clear hf hb
  generalize sumI fs = S at *
  obtain ⟨n, hn1⟩ : ∃ n, n = fs.length := ⟨_, rfl⟩
  rw [← hn1] at hn Hf HB Hs ⊢
  clear hn1
  go_enter Try.func152, Try.ntmps152
  go_wp2
  go_loop [3, 4] (fun s i => ∃ k : Nat, k ≤ n ∧ i = .int .i64 (k : Int) ∧ s = .int .i64 (S k)) (fun _ i => n - (intOf i).toNat)
  case atStart => exact ⟨0, Nat.zero_le _, rfl, by rw [H0.out]⟩
  case round =>
    obtain ⟨k, hk, rfl, rfl⟩ := hrel
    by_cases hlt : k < n
    · obtain ⟨hcap, b, off, rfl, hbs, hc⟩ := Hf.out (by omega)
      have c1 := hc k hlt
      obtain ⟨b0, b1⟩ := HB.out k hlt
      obtain ⟨s0, s1⟩ := Hs.out k hk
      have Hst2 := Lib.hid (Hst.out k)
      clear hc
      generalize fs.getD k 0 = x at *
      generalize S k = y at *
      go_wp2
      go_round
      case rel => exact ⟨k + 1, by omega, by go_num, by rw [Hst2.out]⟩
      case measure => simp [intOf]; omega
    · obtain rfl : k = n := by omega
      go_wp2
      go_ret
      exact ⟨rfl, rfl⟩
def tileB (fs : List Int) : Bool := decide (fs.length = 9) && (allB 0 4 fs && decide (sumI fs fs.length ≤ 14))
theorem tileB_at {fs : List Int} (h : tileB fs = true) : fs.length = 9 ∧ (∀ i, i < fs.length → 0 ≤ fs.getD i 0 ∧ fs.getD i 0 ≤ 4) ∧ sumI fs fs.length ≤ 14 := by
  unfold tileB at h
  rw [Bool.and_eq_true, Bool.and_eq_true] at h
  exact ⟨of_decide_eq_true h.1, allB_at h.2.1, of_decide_eq_true h.2.2⟩
set_option maxHeartbeats 2000000 in
theorem tiles_spec (fs : List Int) (v : Value) (w : World) (hn : fs.length ≤ 1048576) (h : Sl (Value.int .i64) 0 w v fs) :
    Calls Try.prog 119 #[v] w fun e w' => e = .returned (.bool (tileB fs)) ∧ w = w' := by
  by_cases h9 : fs.length = 9
  · have HS := Lib.hid (fun hb => sumS_any fs v w (by omega) hb h)
    have Hbad := Lib.hid (fun k (hk : k < fs.length) h2 => show tileB fs = false by unfold tileB; rw [allB_not (lo := 0) (hi := 4) (fs := fs) k hk h2, Bool.false_and, Bool.and_false])
    have Hgood := Lib.hid (fun hb => show tileB fs = decide (sumI fs fs.length ≤ 14) by unfold tileB; rw [allB_of (lo := 0) (hi := 4) (fs := fs) hb, decide_eq_true h9, Bool.true_and, Bool.true_and])
    have Hin := Lib.hid (fun x z => inC_any x 0 4 z)
    obtain ⟨p, cap, rfl, hf⟩ := h
    have Hf := Lib.hid hf
    clear hf
    generalize sumI fs fs.length = S at *
    generalize tileB fs = R at *
    obtain ⟨n, hn1⟩ : ∃ n, n = fs.length := ⟨_, rfl⟩
    rw [← hn1] at h9 Hf Hbad Hgood HS ⊢
    clear hn1 hn
    subst h9
    go_enter Try.func119, Try.ntmps119
    go_wp2
    go_loop [3] (fun i => ∃ k : Nat, k ≤ 9 ∧ i = .int .i64 (k : Int) ∧ Hid (∀ j, j < k → 0 ≤ fs.getD j 0 ∧ fs.getD j 0 ≤ 4)) (fun i => 9 - (intOf i).toNat)
    case atStart => exact ⟨0, Nat.zero_le _, rfl, Lib.hid (fun j hj => absurd hj (by omega))⟩
    case round =>
      obtain ⟨k, hk, rfl, hp⟩ := hrel
      by_cases hlt : k < 9
      · obtain ⟨hcap, b, off, rfl, hbs, hc⟩ := Hf.out (by omega)
        have c1 := hc k hlt
        by_cases hx : 0 ≤ fs.getD k 0 ∧ fs.getD k 0 ≤ 4
        · have Hp2 : Hid (∀ j, j < k + 1 → 0 ≤ fs.getD j 0 ∧ fs.getD j 0 ≤ 4) := Lib.hid (fun j hj => by
            by_cases e : j = k
            · subst e; exact hx
            · exact hp.out j (by omega))
          have Hin2 := Lib.hid (fun z => by have := Hin.out (fs.getD k 0) z; rw [decide_eq_true hx.1, decide_eq_true hx.2] at this; exact this)
          have d1 : decide ((k : Int) < 9) = true := decide_eq_true (by omega)
          clear hc hx
          generalize fs.getD k 0 = x at *
          go_wp2_with (go_at_call 83; (with_reducible refine (Hin2.out _).mono ?_); rintro e w3 ⟨rfl, rfl⟩)
          go_round
          case rel => exact ⟨k + 1, by omega, by go_num, Hp2⟩
          case measure => simp [intOf]; omega
        · have HR := Lib.hid (Hbad.out k hlt hx)
          have Hin2 := Lib.hid (fun z => by have := Hin.out (fs.getD k 0) z; rw [show (decide (0 ≤ fs.getD k 0) && decide (fs.getD k 0 ≤ 4)) = false by simpa using hx] at this; exact this)
          have d1 : decide ((k : Int) < 9) = true := decide_eq_true (by omega)
          clear hc hx
          generalize fs.getD k 0 = x at *
          go_wp2_with (go_at_call 83; (with_reducible refine (Hin2.out _).mono ?_); rintro e w3 ⟨rfl, rfl⟩)
          go_ret
          exact ⟨ret_bool HR.out.symm, rfl⟩
      · obtain rfl : k = 9 := by omega
        have HR := Lib.hid (Hgood.out hp.out)
        have HS2 := Lib.hid (HS.out hp.out)
        go_wp2_with (go_at_call 152; (with_reducible refine HS2.out.mono ?_); rintro e w3 ⟨rfl, rfl⟩)
        go_ret
        exact ⟨ret_bool HR.out.symm, rfl⟩
  · have e0 : tileB fs = false := by unfold tileB; rw [decide_eq_false h9, Bool.false_and]
    rw [e0]
    obtain ⟨p, cap, rfl, -⟩ := h
    have d : ((fs.length : Int) != 9) = true := by rw [bne_iff_ne]; omega
    have d1 : (fs.length = 9) = False := eq_false h9
    have d2 : ((fs.length : Int) = 9) = False := eq_false (by omega)
    have d3 : ((fs.length : Int) == 9) = false := by rw [beq_eq_false_iff_ne]; omega
    clear e0 h9
    generalize fs.length = n at *
    go_enter Try.func119, Try.ntmps119
    go_wp2
    go_ret
    exact ⟨rfl, rfl⟩
end Go.Proofs.Ytcoehcoohppbjaa
