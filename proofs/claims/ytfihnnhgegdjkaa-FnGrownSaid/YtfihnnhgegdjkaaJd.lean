/- Contracts: the best share, growth of a purse, in both texts. -/
import Derived.Test.YtfihnnhgegdjkaaJc
set_option linter.unusedVariables false
namespace Go.Proofs.Ytfihnnhgegdjkaa
open Go.RowKit Fl

theorem growing_any (x y : Nat) (hy : y < 4294967296) (w : World) : Calls Try.prog 17 #[.float .f32 x, .float .f32 y] w fun e w' => e = .returned (.bool (shareB x && aboveB y)) ∧ Drawn w w' := by
  have Hc := Lib.hid (fun z => chance_impl x z)
  have Hf := Lib.hid (fun z => isFinite_any y hy z)
  have hb : finB y = finB3 y := rfl
  rw [hb] at Hf
  clear hb
  cases hs : shareB x
  · rw [hs] at Hc
    clear hs
    go_enter Try.func17, Try.ntmps17
    go_wp2_with (go_at_call 28; refine (Hc.out _).mono ?_; rintro e w' ⟨rfl, rfl⟩)
    go_ret
    exact ⟨rfl, Drawn.refl _⟩
  · rw [hs] at Hc
    clear hs
    cases hg : (FloatKind.f32.format.order y 0 == some .gt)
    · have HR := Lib.hid (show (true && aboveB y) = false by unfold aboveB gtB; rw [hg]; simp)
      rw [HR.out]
      go_enter Try.func17, Try.ntmps17
      go_wp2_with (first | (go_at_call 28; refine (Hc.out _).mono ?_; rintro e w' ⟨rfl, rfl⟩))
      go_ret
      exact ⟨rfl, Drawn.refl _⟩
    · have HR := Lib.hid (show (true && aboveB y) = finB3 y by unfold aboveB gtB; rw [hg]; simp)
      rw [HR.out]
      generalize finB3 y = B at *
      go_enter Try.func17, Try.ntmps17
      go_wp2_with (first | (go_at_call 28; refine (Hc.out _).mono ?_; rintro e w' ⟨rfl, rfl⟩) | (go_at_call 29; refine (Hf.out _).mono ?_; rintro e w' ⟨rfl, n, rfl⟩))
      go_ret
      exact ⟨rfl, n, rfl⟩
/-! ### the best share -/
def BestC (x y s : Nat) : Prop := ∃ a c d, FopR .mul .f32 x y a ∧ FopR .sub .f32 1065353216 x c ∧ FopR .sub .f32 a c d ∧ FopR .quo .f32 d y s
theorem BestC.same {x y s t : Nat} (h : BestC x y s) (g : BestC x y t) : SameF .f32 s t := by
  obtain ⟨a, c, d, h1, h2, h3, h4⟩ := h
  obtain ⟨a', c', d', g1, g2, g3, g4⟩ := g
  exact fop_same h4 g4 (fop_same h3 g3 (fop_same h1 g1 rfl rfl) (fop_same h2 g2 rfl rfl)) rfl
def BestR (x y r : Nat) (t : Bool) : Prop := (shareB x = true ∧ aboveB y = true → ∃ s, BestC x y s ∧ (r, t) = growOut s) ∧ (¬ (shareB x = true ∧ aboveB y = true) → r = 0 ∧ t = false)
theorem BestR.samef {x y r q : Nat} {t u : Bool} (hx : x < 4294967296) (hy : y < 4294967296) (h : BestR x y r t) (g : BestR x y q u) : SameF .f32 r q ∧ t = u := by
  have key : r = q ∧ t = u := by
    by_cases h1 : shareB x = true ∧ aboveB y = true
    · obtain ⟨s, hs, e⟩ := h.1 h1
      obtain ⟨s', hs', e'⟩ := g.1 h1
      rw [out_same (f := growOut) (fun _ => growOut_nan) (hs.same hs'), ← e'] at e
      exact Prod.mk.inj e
    · obtain ⟨e1, e2⟩ := h.2 h1
      obtain ⟨g1, g2⟩ := g.2 h1
      exact ⟨by rw [e1, g1], by rw [e2, g2]⟩
  obtain ⟨rfl, e⟩ := key
  exact ⟨rfl, e⟩
set_option maxRecDepth 100000 in
set_option maxHeartbeats 1000000 in
theorem best_impl (x y : Nat) (hx : x < 4294967296) (hy : y < 4294967296) (w : World) :
    Calls Try.prog 7 #[.float .f32 x, .float .f32 y] w fun e w' => ∃ r t, e = .returned (.tuple #[.float .f32 r, .bool t]) ∧ BestR x y r t ∧ Drawn w w' := by
  have HG := Lib.hid (fun z => growing_any x y hy z)
  have Hno : Hid (¬ (shareB x = true ∧ aboveB y = true) → BestR x y 0 false) := Lib.hid (fun h => ⟨fun k => absurd k h, fun _ => ⟨rfl, rfl⟩⟩)
  by_cases hk : shareB x = true ∧ aboveB y = true
  · obtain ⟨hs, hg⟩ := hk
    · have Hyes : Hid (∀ s, BestC x y s → BestR x y (growOut s).1 (growOut s).2) := Lib.hid (fun s h => ⟨fun _ => ⟨s, h, rfl⟩, fun k => absurd ⟨hs, hg⟩ k⟩)
      rw [hs, hg] at HG
      clear hs hg Hno
      go_enter Try.func7, Try.ntmps7
      go_upto_if 20 with (first | (go_at_call 17; refine (HG.out _).mono ?_; rintro e w' ⟨rfl, n0, rfl⟩) | (refine wpList_farith rfl .mul _ _ _ _ rfl (by simp) .f32 x y rfl rfl ?_; intro a na Ha) | (refine wpList_farith rfl .sub _ _ _ _ rfl (by simp) .f32 1065353216 x rfl rfl ?_; intro c nc Hc_) | (refine wpList_farith rfl .sub _ _ _ _ rfl (by simp) .f32 a c rfl rfl ?_; intro d nd Hd) | (refine wpList_farith rfl .quo _ _ _ _ rfl (by simp) .f32 d y rfl rfl ?_; intro s ns Hs))
      have Hg : Hid (BestC x y s) := Lib.hid ⟨a, c, d, Ha.out, Hc_.out, Hd.out, Hs.out⟩
      cases hl : (FloatKind.f32.format.order s 0 == some .lt)
      · have HO : Hid (growOut s = finOut s) := Lib.hid (by unfold growOut finOut ltB; rw [hl]; rfl)
        have Hn := Lib.hid (fun z => number_impl s (wf32 Hs.out.wf) z)
        go_wp2_with (go_at_call 18; refine (Hn.out _).mono ?_; rintro e w' ⟨rfl, hd⟩; have Hdd := Lib.hid hd; clear hd)
        go_ret2
        exact ⟨_, _, rfl, by rw [← HO.out]; exact Hyes.out s Hg.out, Drawn.trans ⟨_, rfl⟩ Hdd.out⟩
      · have HO : Hid (growOut s = (0, true)) := Lib.hid (by unfold growOut ltB; rw [hl]; rfl)
        go_wp2
        go_ret2
        exact ⟨0, true, rfl, by have := Hyes.out s Hg.out; rw [HO.out] at this; exact this, ⟨_, rfl⟩⟩
  · have HR := Lib.hid (Hno.out hk)
    have hB : (shareB x && aboveB y) = false := by
      rw [Bool.eq_false_iff]; intro h; rw [Bool.and_eq_true] at h; exact hk h
    rw [hB] at HG
    clear hB hk
    go_enter Try.func7, Try.ntmps7
    go_wp2_with (first | (go_at_call 17; refine (HG.out _).mono ?_; rintro e w' ⟨rfl, n0, rfl⟩))
    go_ret2
    exact ⟨_, _, rfl, HR.out, ⟨_, rfl⟩⟩
theorem AtR.above {x y z r : Nat} {t : Bool} (h : AtR x y z r t) (hs : shareB x = true) (hg : aboveB y = true) : AtS x y z r t := by
  have h2 : gtB y 0 = true := by unfold aboveB at hg; rw [Bool.and_eq_true] at hg; exact hg.2
  exact ⟨fun k => h.1 ⟨hs, h2, k.2.2⟩, fun k => h.2 (fun k' => k ⟨hs, hg, k'.2.2⟩)⟩
theorem AtS.samef {x y z r q : Nat} {t u : Bool} (hx : x < 4294967296) (hy : y < 4294967296) (hz : z < 4294967296) (h : AtS x y z r t) (g : AtS x y z q u) : SameF .f32 r q ∧ t = u := by
  have key : r = q ∧ t = u := by
    by_cases h1 : okB x y z
    · obtain ⟨s, hs, e⟩ := h.1 h1
      obtain ⟨s', hs', e'⟩ := g.1 h1
      rw [out_same (f := finOut) (fun _ hn => finOut_nan (fin_notNan hn)) (hs.same hs'), ← e'] at e
      exact Prod.mk.inj e
    · obtain ⟨e1, e2⟩ := h.2 h1
      obtain ⟨g1, g2⟩ := g.2 h1
      exact ⟨by rw [e1, g1], by rw [e2, g2]⟩
  obtain ⟨rfl, e⟩ := key
  exact ⟨rfl, e⟩
theorem growof_impl (x y z : Nat) (hx : x < 4294967296) (hy : y < 4294967296) (hz : z < 4294967296) (w : World) :
    Calls Try.prog 8 #[.float .f32 x, .float .f32 y, .float .f32 z] w fun e w' => ∃ r t, e = .returned (.tuple #[.float .f32 r, .bool t]) ∧ AtS x y z r t ∧ Drawn w w' := by
  have HG := Lib.hid (fun z => growing_any x y hy z)
  have HA := Lib.hid (fun v => growat_impl x y z hx hy hz v)
  by_cases hk : shareB x = true ∧ aboveB y = true
  · obtain ⟨hs, hg⟩ := hk
    have Hup : Hid (∀ r t, AtR x y z r t → AtS x y z r t) := Lib.hid (fun r t h => h.above hs hg)
    rw [hs, hg] at HG
    clear hs hg
    go_enter Try.func8, Try.ntmps8
    go_wp2_with (first | (go_at_call 17; refine (HG.out _).mono ?_; rintro e w' ⟨rfl, n0, rfl⟩) | (go_at_call 19; refine (HA.out _).mono ?_; rintro e w2 ⟨r, t, rfl, h, hd⟩; have HR := Lib.hid (Hup.out r t h); have Hd := Lib.hid hd; clear h hd))
    go_ret2
    exact ⟨_, _, rfl, HR.out, Drawn.trans ⟨_, rfl⟩ Hd.out⟩
  · have HR : Hid (AtS x y z 0 false) := Lib.hid ⟨fun k => absurd ⟨k.1, k.2.1⟩ hk, fun _ => ⟨rfl, rfl⟩⟩
    have hB : (shareB x && aboveB y) = false := by
      rw [Bool.eq_false_iff]; intro h; rw [Bool.and_eq_true] at h; exact hk h
    rw [hB] at HG
    clear hB hk
    go_enter Try.func8, Try.ntmps8
    go_wp2_with (first | (go_at_call 17; refine (HG.out _).mono ?_; rintro e w' ⟨rfl, n0, rfl⟩))
    go_ret2
    exact ⟨_, _, rfl, HR.out, ⟨_, rfl⟩⟩
/-- from 0 to 1, and not 1: that is from 0 on, less than 1 -/
theorem part_share (z : Nat) : partB z = (shareB z && !(FloatKind.f32.format.order z 1065353216 == some .eq)) := by
  unfold partB shareB leB ltB
  cases geB z 0
  · rfl
  · cases h : FloatKind.f32.format.order z 1065353216 with
    | none => rfl
    | some o => cases o <;> rfl
