/- Contracts: gains and growth, in both texts. -/
import Derived.Test.YtlfccipkjgcodaaJa
import Derived.Test.YtlfccipkjgcodaaNumb
import Derived.Test.YtlfccipkjgcodaaIa
import Derived.Deep.Cut
set_option linter.unusedVariables false
namespace Go.Proofs.Ytlfccipkjgcodaa
open Go.RowKit Fl

theorem chance_impl (x : Nat) (w : World) : Calls Try.prog 63 #[.float .f32 x] w fun e w' => e = .returned (.bool (shareB x)) ∧ w = w' := by
  cases h1 : (FloatKind.f32.format.order x 0 == some .gt || FloatKind.f32.format.order x 0 == some .eq)
  · have H := Lib.hid (show shareB x = false by unfold shareB geB; rw [h1]; rfl)
    go_enter Try.func63, Try.ntmps63
    go_wp2
    go_ret
    exact ⟨ret_bool H.out.symm, rfl⟩
  · cases h2 : (FloatKind.f32.format.order x 1065353216 == some .lt || FloatKind.f32.format.order x 1065353216 == some .eq)
    · have H := Lib.hid (show shareB x = false by unfold shareB geB leB; rw [h1, h2]; rfl)
      go_enter Try.func63, Try.ntmps63
      go_wp2
      go_ret
      exact ⟨ret_bool H.out.symm, rfl⟩
    · have H := Lib.hid (show shareB x = true by unfold shareB geB leB; rw [h1, h2]; rfl)
      go_enter Try.func63, Try.ntmps63
      go_wp2
      go_ret
      exact ⟨ret_bool H.out.symm, rfl⟩
theorem chance_spec (x : Nat) (w : World) : Calls Try.prog 60 #[.float .f32 x] w fun e w' => e = .returned (.bool (shareB x)) ∧ w = w' := by
  cases h1 : (FloatKind.f32.format.order x 0 == some .gt || FloatKind.f32.format.order x 0 == some .eq)
  · have H := Lib.hid (show shareB x = false by unfold shareB geB; rw [h1]; rfl)
    go_enter Try.func60, Try.ntmps60
    go_wp2
    go_ret
    exact ⟨ret_bool H.out.symm, rfl⟩
  · cases h2 : (FloatKind.f32.format.order x 1065353216 == some .lt || FloatKind.f32.format.order x 1065353216 == some .eq)
    · have H := Lib.hid (show shareB x = false by unfold shareB geB leB; rw [h1, h2]; rfl)
      go_enter Try.func60, Try.ntmps60
      go_wp2
      go_ret
      exact ⟨ret_bool H.out.symm, rfl⟩
    · have H := Lib.hid (show shareB x = true by unfold shareB geB leB; rw [h1, h2]; rfl)
      go_enter Try.func60, Try.ntmps60
      go_wp2
      go_ret
      exact ⟨ret_bool H.out.symm, rfl⟩
theorem number_impl (x : Nat) (hx : x < 4294967296) (w : World) : Calls Try.prog 64 #[.float .f32 x] w fun e w' => e = .returned (.tuple #[.float .f32 (finOut x).1, .bool (finOut x).2]) ∧ Drawn w w' := by
  have Hf := Lib.hid (fun z => isFinite_any x hx z)
  have hb : finB x = finB3 x := rfl
  rw [hb] at Hf
  clear hb
  unfold finOut
  cases hB : finB3 x
  all_goals
    rw [hB] at Hf
    have HB := Lib.hid hB
    clear hB
    go_enter Try.func64, Try.ntmps64
    go_wp2_with (go_at_call 83; refine (Hf.out _).mono ?_; rintro e w' ⟨rfl, n, rfl⟩)
    go_ret2
    exact ⟨by simp, n, rfl⟩
theorem number_spec (x : Nat) (hx : x < 4294967296) (w : World) : Calls Try.prog 62 #[.float .f32 x] w fun e w' => e = .returned (.tuple #[.float .f32 (finOut x).1, .bool (finOut x).2]) ∧ Drawn w w' := by
  have Hf := Lib.hid (fun z => finite_spec x hx z)
  have hb : finB x = finB3 x := rfl
  rw [hb] at Hf
  clear hb
  unfold finOut
  cases hB : finB3 x
  all_goals
    rw [hB] at Hf
    have HB := Lib.hid hB
    clear hB
    go_enter Try.func62, Try.ntmps62
    go_wp2_with (go_at_call 82; refine (Hf.out _).mono ?_; rintro e w' ⟨rfl, n, rfl⟩)
    go_ret2
    exact ⟨by simp, n, rfl⟩
def aboveB (y : Nat) : Bool := finB3 y && gtB y 0
theorem above_spec (y : Nat) (hy : y < 4294967296) (w : World) : Calls Try.prog 61 #[.float .f32 y] w fun e w' => e = .returned (.bool (aboveB y)) ∧ Drawn w w' := by
  have Hf := Lib.hid (fun z => finite_spec y hy z)
  have hb : finB y = finB3 y := rfl
  rw [hb] at Hf
  clear hb
  unfold aboveB
  cases hB : finB3 y
  all_goals
    rw [hB] at Hf
    have HB := Lib.hid hB
    clear hB
    go_enter Try.func61, Try.ntmps61
    go_wp2_with (go_at_call 82; refine (Hf.out _).mono ?_; rintro e w' ⟨rfl, n, rfl⟩)
    go_ret
    exact ⟨by simp [gtB], n, rfl⟩

abbrev okG (x : Nat) (a b : Int) : Prop := shareB x = true ∧ (0 ≤ a ∧ a ≤ 1000000) ∧ 0 ≤ b ∧ b ≤ 1000000
/-- what a gain may be told as -/
def GainR (x : Nat) (a b : Int) (r : Nat) (t : Bool) : Prop := if okG x a b then GainC x (floatOfInt .f32 a) (floatOfInt .f32 b) r ∧ t = true else r = 0 ∧ t = false
theorem GainR.same {x : Nat} {a b : Int} {r q : Nat} {t u : Bool} (h : GainR x a b r t) (g : GainR x a b q u) : SameF .f32 r q ∧ t = u := by
  unfold GainR at h g
  by_cases hk : okG x a b
  · rw [if_pos hk] at h g
    exact ⟨h.1.same g.1, by rw [h.2, g.2]⟩
  · rw [if_neg hk] at h g
    rw [h.1, g.1, h.2, g.2]; exact ⟨rfl, rfl⟩
set_option maxRecDepth 100000 in
set_option maxHeartbeats 1000000 in
theorem gain_impl (x : Nat) (hx : x < 4294967296) (a : Int) (al : -9223372036854775808 ≤ a) (au : a ≤ 9223372036854775807) (b : Int) (bl : -9223372036854775808 ≤ b) (bu : b ≤ 9223372036854775807) (w : World) :
    Calls Try.prog 32 #[.float .f32 x, .int .i64 a, .int .i64 b] w fun e w' => ∃ r t, e = .returned (.tuple #[.float .f32 r, .bool t]) ∧ GainR x a b r t ∧ Drawn w w' := by
  have Hc := Lib.hid (fun z => chance_impl x z)
  have Hno : Hid (¬ okG x a b → GainR x a b 0 false) := Lib.hid (fun h => by unfold GainR; rw [if_neg h]; exact ⟨rfl, rfl⟩)
  cases hs : shareB x
  · have HR := Lib.hid (Hno.out (fun h => by have := h.1; rw [hs] at this; exact Bool.false_ne_true this))
    rw [hs] at Hc
    clear hs
    go_enter Try.func32, Try.ntmps32
    go_wp2_with (go_at_call 63; refine (Hc.out _).mono ?_; rintro e w' ⟨rfl, rfl⟩)
    go_ret2
    exact ⟨_, _, rfl, HR.out, Drawn.refl _⟩
  · have Hs := Lib.hid hs
    rw [hs] at Hc
    clear hs
    by_cases ha : 0 ≤ a ∧ a ≤ 1000000
    · have Ha := Lib.hid (fun z => stake_yes a z ha.1 ha.2)
      by_cases hb : 0 ≤ b ∧ b ≤ 1000000
      · have Hb := Lib.hid (fun z => stake_yes b z hb.1 hb.2)
        have Hyes : Hid (∀ s, GainC x (floatOfInt .f32 a) (floatOfInt .f32 b) s → GainR x a b s true) := Lib.hid (fun s h => by unfold GainR; rw [if_pos ⟨Hs.out, ha, hb⟩]; exact ⟨h, rfl⟩)
        have Hfin : Hid (∀ s, GainC x (floatOfInt .f32 a) (floatOfInt .f32 b) s → finB3 s = true) := Lib.hid (fun s h => h.fin (share_bd hx Hs.out) (stake_bd ha.1 ha.2) (stake_bd hb.1 hb.2))
        go_enter Try.func32, Try.ntmps32
        go_wp2_with (go_at_call 63; refine (Hc.out _).mono ?_; rintro e w' ⟨rfl, rfl⟩)
        refine (Ha.out _).mono ?_
        rintro e w' ⟨rfl, rfl⟩
        go_wp2_with fail
        refine (Hb.out _).mono ?_
        rintro e w' ⟨rfl, rfl⟩
        go_wp2_with (first | (refine wpList_farith rfl .mul _ _ _ _ rfl (by simp) .f32 x _ rfl rfl ?_; intro p np Hp) | (refine wpList_farith rfl .sub _ _ _ _ rfl (by simp) .f32 1065353216 _ rfl rfl ?_; intro q nq Hq) | (refine wpList_farith rfl .mul _ _ _ _ rfl (by simp) .f32 q _ rfl rfl ?_; intro r nr Hr) | (refine wpList_farith rfl .sub _ _ _ _ rfl (by simp) .f32 p _ rfl rfl ?_; intro s ns Hs_) | (go_at_call 64; have Hg := Lib.hid (show GainC x (floatOfInt .f32 a) (floatOfInt .f32 b) s from ⟨p, q, r, Hp.out, Hq.out, Hr.out, Hs_.out⟩); have Hn := Lib.hid (fun z => number_impl s (wf32 Hs_.out.wf) z); rw [show finOut s = (s, true) by unfold finOut; rw [Hfin.out s Hg.out]; rfl] at Hn; refine (Hn.out _).mono ?_; rintro e w' ⟨rfl, hd⟩; have Hd := Lib.hid hd; clear hd))
        go_ret2
        exact ⟨_, _, rfl, Hyes.out s Hg.out, Drawn.trans ⟨_, rfl⟩ Hd.out⟩
      · have Hb := Lib.hid (fun z => stake_no b z (by omega))
        have HR := Lib.hid (Hno.out (fun h => hb h.2.2))
        go_enter Try.func32, Try.ntmps32
        go_wp2_with (go_at_call 63; refine (Hc.out _).mono ?_; rintro e w' ⟨rfl, rfl⟩)
        refine (Ha.out _).mono ?_
        rintro e w' ⟨rfl, rfl⟩
        go_wp2_with fail
        refine (Hb.out _).mono ?_
        rintro e w' ⟨rfl, rfl⟩
        go_wp2
        go_ret2
        exact ⟨_, _, rfl, HR.out, Drawn.refl _⟩
    · have Ha := Lib.hid (fun z => stake_no a z (by omega))
      have HR := Lib.hid (Hno.out (fun h => ha h.2.1))
      go_enter Try.func32, Try.ntmps32
      go_wp2_with (go_at_call 63; refine (Hc.out _).mono ?_; rintro e w' ⟨rfl, rfl⟩)
      refine (Ha.out _).mono ?_
      rintro e w' ⟨rfl, rfl⟩
      go_wp2
      go_ret2
      exact ⟨_, _, rfl, HR.out, Drawn.refl _⟩
set_option maxRecDepth 100000 in
set_option maxHeartbeats 1000000 in
theorem gain_spec (x : Nat) (hx : x < 4294967296) (a : Int) (al : -9223372036854775808 ≤ a) (au : a ≤ 9223372036854775807) (b : Int) (bl : -9223372036854775808 ≤ b) (bu : b ≤ 9223372036854775807) (w : World) :
    Calls Try.prog 31 #[.float .f32 x, .int .i64 a, .int .i64 b] w fun e w' => ∃ r t, e = .returned (.tuple #[.float .f32 r, .bool t]) ∧ GainR x a b r t ∧ Drawn w w' := by
  have Hc := Lib.hid (fun z => chance_spec x z)
  have Hno : Hid (¬ okG x a b → GainR x a b 0 false) := Lib.hid (fun h => by unfold GainR; rw [if_neg h]; exact ⟨rfl, rfl⟩)
  cases hs : shareB x
  · have HR := Lib.hid (Hno.out (fun h => by have := h.1; rw [hs] at this; exact Bool.false_ne_true this))
    rw [hs] at Hc
    clear hs
    go_enter Try.func31, Try.ntmps31
    go_wp2_with (go_at_call 60; refine (Hc.out _).mono ?_; rintro e w' ⟨rfl, rfl⟩)
    go_ret2
    exact ⟨_, _, rfl, HR.out, Drawn.refl _⟩
  · have Hs := Lib.hid hs
    rw [hs] at Hc
    clear hs
    by_cases ha : 0 ≤ a ∧ a ≤ 1000000
    · have Ha := Lib.hid (fun z => in_yes a 0 1000000 z ha.1 ha.2)
      by_cases hb : 0 ≤ b ∧ b ≤ 1000000
      · have Hb := Lib.hid (fun z => in_yes b 0 1000000 z hb.1 hb.2)
        have Hyes : Hid (∀ s, GainC x (floatOfInt .f32 a) (floatOfInt .f32 b) s → GainR x a b s true) := Lib.hid (fun s h => by unfold GainR; rw [if_pos ⟨Hs.out, ha, hb⟩]; exact ⟨h, rfl⟩)
        have Hfin : Hid (∀ s, GainC x (floatOfInt .f32 a) (floatOfInt .f32 b) s → finB3 s = true) := Lib.hid (fun s h => h.fin (share_bd hx Hs.out) (stake_bd ha.1 ha.2) (stake_bd hb.1 hb.2))
        go_enter Try.func31, Try.ntmps31
        go_wp2_with (go_at_call 60; refine (Hc.out _).mono ?_; rintro e w' ⟨rfl, rfl⟩)
        refine (Ha.out _).mono ?_
        rintro e w' ⟨rfl, rfl⟩
        go_wp2_with fail
        refine (Hb.out _).mono ?_
        rintro e w' ⟨rfl, rfl⟩
        go_wp2_with (first | (refine wpList_farith rfl .mul _ _ _ _ rfl (by simp) .f32 x _ rfl rfl ?_; intro p np Hp) | (refine wpList_farith rfl .sub _ _ _ _ rfl (by simp) .f32 1065353216 _ rfl rfl ?_; intro q nq Hq) | (refine wpList_farith rfl .mul _ _ _ _ rfl (by simp) .f32 q _ rfl rfl ?_; intro r nr Hr) | (refine wpList_farith rfl .sub _ _ _ _ rfl (by simp) .f32 p _ rfl rfl ?_; intro s ns Hs_))
        have Hg : Hid (GainC x (floatOfInt .f32 a) (floatOfInt .f32 b) s) := Lib.hid ⟨p, q, r, Hp.out, Hq.out, Hr.out, Hs_.out⟩
        go_ret2
        exact ⟨_, _, rfl, Hyes.out s Hg.out, ⟨_, rfl⟩⟩
      · have Hb := Lib.hid (fun z => in_no b 0 1000000 z (by omega))
        have HR := Lib.hid (Hno.out (fun h => hb h.2.2))
        go_enter Try.func31, Try.ntmps31
        go_wp2_with (go_at_call 60; refine (Hc.out _).mono ?_; rintro e w' ⟨rfl, rfl⟩)
        refine (Ha.out _).mono ?_
        rintro e w' ⟨rfl, rfl⟩
        go_wp2_with fail
        refine (Hb.out _).mono ?_
        rintro e w' ⟨rfl, rfl⟩
        go_wp2
        go_ret2
        exact ⟨_, _, rfl, HR.out, Drawn.refl _⟩
    · have Ha := Lib.hid (fun z => in_no a 0 1000000 z (by omega))
      have HR := Lib.hid (Hno.out (fun h => ha h.2.1))
      go_enter Try.func31, Try.ntmps31
      go_wp2_with (go_at_call 60; refine (Hc.out _).mono ?_; rintro e w' ⟨rfl, rfl⟩)
      refine (Ha.out _).mono ?_
      rintro e w' ⟨rfl, rfl⟩
      go_wp2
      go_ret2
      exact ⟨_, _, rfl, HR.out, Drawn.refl _⟩

/-- what a share may be told as -/
def GrowR (x y r : Nat) (t : Bool) : Prop := (shareB x = true ∧ gtB y 0 = true → ∃ s, GrowC x y s ∧ (r, t) = growOut s) ∧ (¬ (shareB x = true ∧ gtB y 0 = true) → r = 0 ∧ t = false)
def GrowS (x y r : Nat) (t : Bool) : Prop := (shareB x = true ∧ aboveB y = true → ∃ s, GrowC x y s ∧ (r, t) = growOut s) ∧ (¬ (shareB x = true ∧ aboveB y = true) → r = 0 ∧ t = false)
theorem GrowR.same {x y r q : Nat} {t u : Bool} (hy : y < 4294967296) (h : GrowR x y r t) (g : GrowS x y q u) : r = q ∧ t = u := by
  by_cases h1 : shareB x = true ∧ gtB y 0 = true
  · obtain ⟨s, hs, e⟩ := h.1 h1
    by_cases h2 : finB3 y = true
    · obtain ⟨s', hs', e'⟩ := g.1 ⟨h1.1, by unfold aboveB; rw [h2, h1.2]; rfl⟩
      rw [out_same (f := growOut) (fun _ => growOut_nan) (hs.same hs'), ← e'] at e
      exact Prod.mk.inj e
    · have hi := above_inf hy h1.2 (Bool.eq_false_iff.2 h2)
      subst hi
      rw [growOut_nan hs.inf] at e
      obtain ⟨e1, e2⟩ := Prod.mk.inj e
      obtain ⟨g1, g2⟩ := g.2 (fun k => h2 (by have := k.2; unfold aboveB at this; rw [Bool.and_eq_true] at this; exact this.1))
      exact ⟨by rw [e1, g1], by rw [e2, g2]⟩
  · obtain ⟨e1, e2⟩ := h.2 h1
    obtain ⟨g1, g2⟩ := g.2 (fun k => h1 ⟨k.1, by have := k.2; unfold aboveB at this; rw [Bool.and_eq_true] at this; exact this.2⟩)
    exact ⟨by rw [e1, g1], by rw [e2, g2]⟩

theorem GrowR.samef {x y r q : Nat} {t u : Bool} (hy : y < 4294967296) (h : GrowR x y r t) (g : GrowS x y q u) : SameF .f32 r q ∧ t = u := by
  obtain ⟨rfl, e⟩ := h.same hy g
  exact ⟨rfl, e⟩

set_option maxRecDepth 100000 in
set_option maxHeartbeats 1000000 in
theorem grow_impl (x y : Nat) (hx : x < 4294967296) (hy : y < 4294967296) (w : World) :
    Calls Try.prog 29 #[.float .f32 x, .float .f32 y] w fun e w' => ∃ r t, e = .returned (.tuple #[.float .f32 r, .bool t]) ∧ GrowR x y r t ∧ Drawn w w' := by
  have Hc := Lib.hid (fun z => chance_impl x z)
  have Hno : Hid (¬ (shareB x = true ∧ gtB y 0 = true) → GrowR x y 0 false) := Lib.hid (fun h => ⟨fun k => absurd k h, fun _ => ⟨rfl, rfl⟩⟩)
  cases hs : shareB x
  · have HR := Lib.hid (Hno.out (fun h => by have := h.1; rw [hs] at this; exact Bool.false_ne_true this))
    rw [hs] at Hc
    clear hs
    go_enter Try.func29, Try.ntmps29
    go_wp2_with (go_at_call 63; refine (Hc.out _).mono ?_; rintro e w' ⟨rfl, rfl⟩)
    go_ret2
    exact ⟨_, _, rfl, HR.out, Drawn.refl _⟩
  · cases hg : (FloatKind.f32.format.order y 0 == some .gt)
    · have HR := Lib.hid (Hno.out (fun h => by have := h.2; unfold gtB at this; rw [hg] at this; exact Bool.false_ne_true this))
      rw [hs] at Hc
      clear hs
      go_enter Try.func29, Try.ntmps29
      go_wp2_with (go_at_call 63; refine (Hc.out _).mono ?_; rintro e w' ⟨rfl, rfl⟩)
      go_ret2
      exact ⟨_, _, rfl, HR.out, Drawn.refl _⟩
    · have Hyes : Hid (∀ s, GrowC x y s → GrowR x y (growOut s).1 (growOut s).2) := Lib.hid (fun s h => ⟨fun _ => ⟨s, h, rfl⟩, fun k => absurd ⟨hs, hg⟩ k⟩)
      rw [hs] at Hc
      clear hs
      go_enter Try.func29, Try.ntmps29
      go_upto_if 23 with (first | (go_at_call 63; refine (Hc.out _).mono ?_; rintro e w' ⟨rfl, rfl⟩) | (refine wpList_farith rfl .add _ _ _ _ rfl (by simp) .f32 _ _ rfl rfl ?_; intro a na Ha) | (refine wpList_farith rfl .mul _ _ _ _ rfl (by simp) .f32 _ _ rfl rfl ?_; intro b nb Hb) | (refine wpList_farith rfl .sub _ _ _ _ rfl (by simp) .f32 _ _ rfl rfl ?_; intro d nd Hd) | (refine wpList_farith rfl .quo _ _ _ _ rfl (by simp) .f32 _ _ rfl rfl ?_; intro s ns Hs))
      have Hg : Hid (GrowC x y s) := Lib.hid ⟨a, b, d, Ha.out, Hb.out, Hd.out, Hs.out⟩
      cases hl : (FloatKind.f32.format.order s 0 == some .lt)
      · have HO : Hid (growOut s = finOut s) := Lib.hid (by unfold growOut finOut ltB; rw [hl]; rfl)
        have Hn := Lib.hid (fun z => number_impl s (wf32 Hs.out.wf) z)
        go_wp2_with (go_at_call 64; refine (Hn.out _).mono ?_; rintro e w' ⟨rfl, hd⟩; have Hdd := Lib.hid hd; clear hd)
        go_ret2
        exact ⟨_, _, rfl, by rw [← HO.out]; exact Hyes.out s Hg.out, Drawn.trans ⟨_, rfl⟩ Hdd.out⟩
      · have HO : Hid (growOut s = (0, true)) := Lib.hid (by unfold growOut ltB; rw [hl]; rfl)
        go_wp2
        go_ret2
        exact ⟨0, true, rfl, by have := Hyes.out s Hg.out; rw [HO.out] at this; exact this, ⟨_, rfl⟩⟩

set_option maxRecDepth 100000 in
set_option maxHeartbeats 1000000 in
theorem grow_spec (x y : Nat) (hx : x < 4294967296) (hy : y < 4294967296) (w : World) :
    Calls Try.prog 28 #[.float .f32 x, .float .f32 y] w fun e w' => ∃ r t, e = .returned (.tuple #[.float .f32 r, .bool t]) ∧ GrowS x y r t ∧ Drawn w w' := by
  have Hc := Lib.hid (fun z => chance_spec x z)
  have Hv := Lib.hid (fun z => above_spec y hy z)
  have Hno : Hid (¬ (shareB x = true ∧ aboveB y = true) → GrowS x y 0 false) := Lib.hid (fun h => ⟨fun k => absurd k h, fun _ => ⟨rfl, rfl⟩⟩)
  cases hs : shareB x
  · have HR := Lib.hid (Hno.out (fun h => by have := h.1; rw [hs] at this; exact Bool.false_ne_true this))
    rw [hs] at Hc
    clear hs
    go_enter Try.func28, Try.ntmps28
    go_wp2_with (go_at_call 60; refine (Hc.out _).mono ?_; rintro e w' ⟨rfl, rfl⟩)
    go_ret2
    exact ⟨_, _, rfl, HR.out, Drawn.refl _⟩
  · cases hg : aboveB y
    · have HR := Lib.hid (Hno.out (fun h => by have := h.2; rw [hg] at this; exact Bool.false_ne_true this))
      rw [hs] at Hc
      rw [hg] at Hv
      clear hs hg
      go_enter Try.func28, Try.ntmps28
      go_wp2_with (first | (go_at_call 60; refine (Hc.out _).mono ?_; rintro e w' ⟨rfl, rfl⟩) | (go_at_call 61; refine (Hv.out _).mono ?_; rintro e w' ⟨rfl, n0, rfl⟩))
      go_ret2
      exact ⟨_, _, rfl, HR.out, ⟨_, rfl⟩⟩
    · have Hyes : Hid (∀ s, GrowC x y s → GrowS x y (growOut s).1 (growOut s).2) := Lib.hid (fun s h => ⟨fun _ => ⟨s, h, rfl⟩, fun k => absurd ⟨hs, hg⟩ k⟩)
      rw [hs] at Hc
      rw [hg] at Hv
      clear hs hg
      go_enter Try.func28, Try.ntmps28
      go_upto_if 23 with (first | (go_at_call 60; refine (Hc.out _).mono ?_; rintro e w' ⟨rfl, rfl⟩) | (go_at_call 61; refine (Hv.out _).mono ?_; rintro e w' ⟨rfl, n0, rfl⟩) | (refine wpList_farith rfl .add _ _ _ _ rfl (by simp) .f32 _ _ rfl rfl ?_; intro a na Ha) | (refine wpList_farith rfl .mul _ _ _ _ rfl (by simp) .f32 _ _ rfl rfl ?_; intro b nb Hb) | (refine wpList_farith rfl .sub _ _ _ _ rfl (by simp) .f32 _ _ rfl rfl ?_; intro d nd Hd) | (refine wpList_farith rfl .quo _ _ _ _ rfl (by simp) .f32 _ _ rfl rfl ?_; intro s ns Hs))
      have Hg : Hid (GrowC x y s) := Lib.hid ⟨a, b, d, Ha.out, Hb.out, Hd.out, Hs.out⟩
      cases hl : (FloatKind.f32.format.order s 0 == some .lt)
      · have HO : Hid (growOut s = finOut s) := Lib.hid (by unfold growOut finOut ltB; rw [hl]; rfl)
        have Hn := Lib.hid (fun z => number_spec s (wf32 Hs.out.wf) z)
        go_wp2_with (go_at_call 62; refine (Hn.out _).mono ?_; rintro e w' ⟨rfl, hd⟩; have Hdd := Lib.hid hd; clear hd)
        go_ret2
        exact ⟨_, _, rfl, by rw [← HO.out]; exact Hyes.out s Hg.out, Drawn.trans ⟨_, rfl⟩ Hdd.out⟩
      · have HO : Hid (growOut s = (0, true)) := Lib.hid (by unfold growOut ltB; rw [hl]; rfl)
        have Hn := Lib.hid (fun z => number_spec 0 (by omega) z)
        have He : finOut 0 = (0, true) := by decide +kernel
        rw [He] at Hn
        clear He
        go_wp2_with (go_at_call 62; refine (Hn.out _).mono ?_; rintro e w' ⟨rfl, hd⟩; have Hdd := Lib.hid hd; clear hd)
        go_ret2
        exact ⟨0, true, rfl, by have := Hyes.out s Hg.out; rw [HO.out] at this; exact this, Drawn.trans ⟨_, rfl⟩ Hdd.out⟩
end Go.Proofs.Ytlfccipkjgcodaa
