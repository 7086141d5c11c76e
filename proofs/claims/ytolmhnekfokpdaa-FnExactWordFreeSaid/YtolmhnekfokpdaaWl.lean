/- Contracts: words that have not come, whole. -/
import Derived.Test.YtolmhnekfokpdaaWj
set_option linter.unusedVariables false
namespace Go.Proofs.Ytolmhnekfokpdaa
open Go.RowKit Go.Maps

def okWF (fs : List Int) (a b : Int) : Prop := wordB fs a = true ∧ (0 ≤ b ∧ b ≤ 60) ∧ rowsB a b.toNat = true
instance (fs : List Int) (a b : Int) : Decidable (okWF fs a b) := by unfold okWF; infer_instance
def ok_WordFree (fs : List Int) (a b : Int) : Bool := decide (okWF fs a b)
def res_WordFree (fs : List Int) (a b : Int) : Int := if okWF fs a b then sumA (fun k => rwI fs a.toNat fs.length b.toNat (k : Int)) fs.length else 0
theorem okWF_not {fs : List Int} {a b : Int} (h : ¬ okWF fs a b) : wordB fs a = false ∨ (wordB fs a = true ∧ ((b < 0 ∨ 60 < b) ∨ ((0 ≤ b ∧ b ≤ 60) ∧ rowsB a b.toNat = false))) := by
  unfold okWF at h
  cases hw : wordB fs a
  · exact .inl rfl
  · refine .inr ⟨rfl, ?_⟩
    by_cases hb : 0 ≤ b ∧ b ≤ 60
    · refine .inr ⟨hb, ?_⟩
      cases hr : rowsB a b.toNat
      · rfl
      · exact absurd ⟨hw, hb, hr⟩ h
    · exact .inl (by omega)
theorem free_impl_no (fs : List Int) (v : Value) (a b : Int) (w : World) (hn : fs.length ≤ 1048576) (h : Sl (Value.int .i64) 0 w v fs) (hno : ¬ okWF fs a b) :
    Calls Try.prog 38 #[v, .int .i64 a, .int .i64 b] w fun e w' => e = .returned (.tuple #[.int .i64 0, .bool false]) ∧ Below w.heap.size w w' := by
  have H0 := wordI_any fs v a w hn h
  rcases okWF_not hno with hw | ⟨hw, hb | ⟨hb, hr⟩⟩
  · rw [hw] at H0
    have H0 := Lib.hid H0
    obtain ⟨p, cap, rfl, hf⟩ := h
    clear hf hno hw
    generalize fs.length = n at *
    go_enter Try.func38, Try.ntmps38
    go_wp2_with fail
    refine H0.out.mono ?_
    rintro e w' ⟨rfl, nq, rfl⟩
    go_wp2
    go_ret2
    exact ⟨rfl, below_drewN (Below.refl _ _) _⟩
  · rw [hw] at H0
    have H0 := Lib.hid H0
    have H1 := Lib.hid (fun z => within_no b 0 60 z hb)
    obtain ⟨p, cap, rfl, hf⟩ := h
    clear hf hno hw hb
    generalize fs.length = n at *
    go_enter Try.func38, Try.ntmps38
    go_wp2_with fail
    refine H0.out.mono ?_
    rintro e w' ⟨rfl, nq, rfl⟩
    go_wp2_with fail
    refine (H1.out _).mono ?_
    rintro e w' ⟨rfl, rfl⟩
    go_wp2
    go_ret2
    exact ⟨rfl, below_drewN (Below.refl _ _) _⟩
  · rw [hw] at H0
    have H0 := Lib.hid H0
    obtain ⟨-, s0, s1⟩ := wordB_bd hw
    obtain ⟨T, rfl⟩ : ∃ T : Nat, b = T := ⟨b.toNat, by omega⟩
    have H1 := Lib.hid (fun z => within_yes (T : Int) 0 60 z hb.1 hb.2)
    have H2 := Lib.hid (fun z => rows_no a T z (by omega) (by omega) (by omega) hr)
    obtain ⟨p, cap, rfl, hf⟩ := h
    clear hf hno hw hb hr
    generalize fs.length = n at *
    go_enter Try.func38, Try.ntmps38
    go_wp2_with fail
    refine H0.out.mono ?_
    rintro e w' ⟨rfl, nq, rfl⟩
    go_wp2_with fail
    refine (H1.out _).mono ?_
    rintro e w' ⟨rfl, rfl⟩
    go_wp2_with fail
    refine (H2.out _).mono ?_
    rintro e w' ⟨rfl, rfl⟩
    go_wp2
    go_ret2
    exact ⟨rfl, below_drewN (Below.refl _ _) _⟩
theorem free_impl_yes (fs : List Int) (v : Value) (s n T : Nat) (w : World) (hn : fs.length = n) (h : Sl (Value.int .i64) 0 w v fs) (hw : wordB fs (s : Int) = true) (hT : T ≤ 60) (hr : rowsB (s : Int) T = true) :
    Calls Try.prog 38 #[v, .int .i64 (s : Int), .int .i64 (T : Int)] w fun e w' => e = .returned (.tuple #[.int .i64 (sumA (fun k => rwI fs s n T (k : Int)) n), .bool true]) ∧ Below w.heap.size w w' := by
  obtain ⟨⟨n1, n2⟩, s0, s1⟩ := wordB_bd hw
  rw [hn] at n1 n2
  have H0 := wordI_any fs v (s : Int) w (by omega) h
  rw [hw] at H0
  have H0 := Lib.hid H0
  have H1 := Lib.hid (fun z => within_yes (T : Int) 0 60 z (by omega) (by omega))
  have H2 := Lib.hid (fun z => rows_yes (s : Int) T z (by omega) (by omega) (by omega) hr)
  have H3 := Lib.hid (fun q => without_any fs s n T v (w.drewN q) hn n1 (by omega) (by omega) hT (h.drewN q) (fun i hi => Int.le_trans (pw_upto_bd (s : Int) T (by omega) (fun j hj => rowsB_at hr j hj) i hi).2 (by omega)))
  obtain ⟨p, cap, rfl, hf⟩ := h
  rw [hn] at H0 H3 ⊢
  clear hf hw hr hn
  generalize sumA (fun k => rwI fs s n T (k : Int)) n = S at *
  go_enter Try.func38, Try.ntmps38
  go_wp2_with fail
  refine H0.out.mono ?_
  rintro e w' ⟨rfl, nq, rfl⟩
  go_wp2_with fail
  refine (H1.out _).mono ?_
  rintro e w' ⟨rfl, rfl⟩
  go_wp2_with fail
  refine (H2.out _).mono ?_
  rintro e w' ⟨rfl, rfl⟩
  go_wp2_with fail
  refine (H3.out _).mono ?_
  rintro e w2 ⟨rfl, hb2⟩
  have Hb2 := Lib.hid hb2
  clear hb2
  go_wp2
  go_ret2
  exact ⟨rfl, (below_drewN (Below.refl _ w) nq).trans (Hb2.out.mono (by simp))⟩
theorem impl_WordFree (fs : List Int) (v : Value) (a : Int) (al : -9223372036854775808 ≤ a) (au : a ≤ 9223372036854775807) (b : Int) (bl : -9223372036854775808 ≤ b) (bu : b ≤ 9223372036854775807) (w : World) (hn : fs.length ≤ 1048576) (h : Sl (Value.int .i64) 0 w v fs) :
    Calls Try.prog 38 #[v, .int .i64 a, .int .i64 b] w fun e w' => e = .returned (.tuple #[.int .i64 (res_WordFree fs a b), .bool (ok_WordFree fs a b)]) ∧ Below w.heap.size w w' := by
  unfold ok_WordFree res_WordFree
  by_cases g : okWF fs a b
  · rw [if_pos g, decide_eq_true g]
    obtain ⟨g1, g2, g3⟩ := g
    obtain ⟨-, s0, s1⟩ := wordB_bd g1
    obtain ⟨s, rfl⟩ : ∃ m : Nat, a = m := ⟨a.toNat, by omega⟩
    obtain ⟨T, rfl⟩ : ∃ m : Nat, b = m := ⟨b.toNat, by omega⟩
    rw [Int.toNat_natCast] at g3
    rw [Int.toNat_natCast, Int.toNat_natCast]
    exact free_impl_yes fs v s _ T w rfl h g1 (by omega) g3
  · rw [if_neg g, decide_eq_false g]
    exact free_impl_no fs v a b w hn h g
theorem free_spec_no1 (fs : List Int) (v : Value) (a b : Int) (w : World) (hn : fs.length ≤ 1048576) (h : Sl (Value.int .i64) 0 w v fs) (hno : wordB fs a = false ∨ (wordB fs a = true ∧ (b < 0 ∨ 60 < b))) :
    Calls Try.prog 37 #[v, .int .i64 a, .int .i64 b] w fun e w' => e = .returned (.tuple #[.int .i64 0, .bool false]) ∧ Below w.heap.size w w' := by
  have H0 := wordS_any fs v a w hn h
  rcases hno with hw | ⟨hw, hb⟩
  · rw [hw] at H0
    have H0 := Lib.hid H0
    obtain ⟨p, cap, rfl, hf⟩ := h
    clear hf hw
    generalize fs.length = n at *
    go_enter Try.func37, Try.ntmps37
    go_wp2_with fail
    refine H0.out.mono ?_
    rintro e w' ⟨rfl, nq, rfl⟩
    go_wp2
    go_ret2
    exact ⟨rfl, below_drewN (Below.refl _ _) _⟩
  · rw [hw] at H0
    have H0 := Lib.hid H0
    have H1 := Lib.hid (fun z => in_no b 0 60 z hb)
    obtain ⟨p, cap, rfl, hf⟩ := h
    clear hf hw hb
    generalize fs.length = n at *
    go_enter Try.func37, Try.ntmps37
    go_wp2_with fail
    refine H0.out.mono ?_
    rintro e w' ⟨rfl, nq, rfl⟩
    go_wp2_with fail
    refine (H1.out _).mono ?_
    rintro e w' ⟨rfl, rfl⟩
    go_wp2
    go_ret2
    exact ⟨rfl, below_drewN (Below.refl _ _) _⟩
set_option maxRecDepth 100000 in
set_option maxHeartbeats 2000000 in
theorem free_spec_no2 (fs : List Int) (v : Value) (a : Int) (T : Nat) (w : World) (hn : fs.length ≤ 1048576) (h : Sl (Value.int .i64) 0 w v fs) (hw : wordB fs a = true) (hT : T ≤ 60) (hr : rowsB a T = false) :
    Calls Try.prog 37 #[v, .int .i64 a, .int .i64 (T : Int)] w fun e w' => e = .returned (.tuple #[.int .i64 0, .bool false]) ∧ Below w.heap.size w w' := by
  have H0 := wordS_any fs v a w hn h
  rw [hw] at H0
  have H0 := Lib.hid H0
  obtain ⟨-, s0, s1⟩ := wordB_bd hw
  have H1 := Lib.hid (fun z => in_yes (T : Int) 0 60 z (by omega) (by omega))
  obtain ⟨t, t1, t2, t3⟩ := rowsB_no hr
  have Hb := Lib.hid (fun k hk => pw_upto_bd a t (by omega) (fun j hj => t2 j hj) k hk)
  have Ha := Lib.hid t2
  have Ht := Lib.hid t3
  have Hst := Lib.hid (fun k => (show pwI a (k + 1) = pwI a k * a from rfl))
  obtain ⟨p, cap, rfl, hf⟩ := h
  clear hf hw hr t2 t3
  generalize fs.length = n at *
  go_enter Try.func37, Try.ntmps37
  go_wp2_with fail
  refine H0.out.mono ?_
  rintro e w' ⟨rfl, nq, rfl⟩
  go_wp2_with fail
  refine (H1.out _).mono ?_
  rintro e w' ⟨rfl, rfl⟩
  go_wp2
  go_loop [8, 9] (fun c i => ∃ k : Nat, k ≤ t ∧ i = .int .i64 (k : Int) ∧ c = .int .i64 (pwI a k)) (fun _ i => T - (intOf i).toNat)
  case atStart => exact ⟨0, Nat.zero_le _, rfl, rfl⟩
  case round =>
    obtain ⟨k, hk, rfl, rfl⟩ := hrel
    have q0 : 0 ≤ 4000000000000000000 / a := Int.ediv_nonneg (by omega) (by omega)
    have q1 : 4000000000000000000 / a ≤ 4000000000000000000 := Int.ediv_le_self _ (by omega)
    by_cases hlt : k < t
    · have ha := Ha.out k hlt
      have hb1 := Hb.out k (by omega)
      have hb2 := Hb.out (k + 1) (by omega)
      rw [Hst.out] at hb2
      have Hs := Lib.hid (Hst.out k)
      obtain ⟨m0, m1⟩ := hb1
      obtain ⟨m2, m3⟩ := hb2
      have dd : decide (4000000000000000000 / a < pwI a k) = false := decide_eq_false (by omega)
      clear ha
      generalize pwI a k = X at *
      go_wp2
      go_round
      case rel => exact ⟨k + 1, by omega, by go_num, by rw [Hs.out]⟩
      case measure => simp [intOf]; omega
    · obtain rfl : t = k := by omega
      have hb1 := Hb.out t (by omega)
      have dd : decide (4000000000000000000 / a < pwI a t) = true := decide_eq_true Ht.out
      obtain ⟨m0, m1⟩ := hb1
      clear Ht
      generalize pwI a t = X at *
      go_wp2
      go_ret2
      exact ⟨rfl, below_drewN (Below.refl _ _) _⟩
theorem spec_WordFree (fs : List Int) (v : Value) (a : Int) (al : -9223372036854775808 ≤ a) (au : a ≤ 9223372036854775807) (b : Int) (bl : -9223372036854775808 ≤ b) (bu : b ≤ 9223372036854775807) (w : World) (hn : fs.length ≤ 1048576) (h : Sl (Value.int .i64) 0 w v fs) :
    Calls Try.prog 37 #[v, .int .i64 a, .int .i64 b] w fun e w' => e = .returned (.tuple #[.int .i64 (res_WordFree fs a b), .bool (ok_WordFree fs a b)]) ∧ Below w.heap.size w w' := by
  unfold ok_WordFree res_WordFree
  by_cases g : okWF fs a b
  · rw [if_pos g, decide_eq_true g]
    obtain ⟨g1, g2, g3⟩ := g
    obtain ⟨-, s0, s1⟩ := wordB_bd g1
    obtain ⟨s, rfl⟩ : ∃ m : Nat, a = m := ⟨a.toNat, by omega⟩
    obtain ⟨T, rfl⟩ : ∃ m : Nat, b = m := ⟨b.toNat, by omega⟩
    rw [Int.toNat_natCast] at g3
    rw [Int.toNat_natCast, Int.toNat_natCast]
    exact free_spec_yes fs s _ T v w rfl h g1 (by omega) g3
  · rw [if_neg g, decide_eq_false g]
    rcases okWF_not g with g1 | ⟨g1, g2 | ⟨g2, g3⟩⟩
    · exact free_spec_no1 fs v a b w hn h (.inl g1)
    · exact free_spec_no1 fs v a b w hn h (.inr ⟨g1, g2⟩)
    · obtain ⟨T, rfl⟩ : ∃ m : Nat, b = m := ⟨b.toNat, by omega⟩
      rw [Int.toNat_natCast] at g3
      exact free_spec_no2 fs v a T w hn h g1 (by omega) g3
end Go.Proofs.Ytolmhnekfokpdaa
