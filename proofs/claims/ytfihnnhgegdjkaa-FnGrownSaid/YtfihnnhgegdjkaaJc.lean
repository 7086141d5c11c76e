/- Contracts: growth at a share, in both texts. -/
import Derived.Test.YtfihnnhgegdjkaaJb
import Derived.Test.YtfihnnhgegdjkaaNume
set_option linter.unusedVariables false
namespace Go.Proofs.Ytfihnnhgegdjkaa
open Go.RowKit Fl

/-- at a share, before it is looked at: the logarithms by LogR -/
def AtC (x y z s : Nat) : Prop := ∃ a b l m c d k n, FopR .mul .f32 z y a ∧ FopR .add .f32 1065353216 a b ∧ LogR b l ∧ FopR .mul .f32 x l m ∧ FopR .sub .f32 1065353216 x c ∧ FopR .sub .f32 1065353216 z d ∧ LogR d k ∧ FopR .mul .f32 c k n ∧ FopR .add .f32 m n s
theorem LogR.samef {x x' q r : Nat} (hx : x < 4294967296) (e : SameF .f32 x x') (h : LogR x q) (g : LogR x' r) : SameF .f32 q r := by
  rcases e.cases with ⟨h1, h2⟩ | ⟨-, -, rfl⟩
  · show cn _ q = cn _ r
    rw [cn_nan (h.1 (.inl h1)), cn_nan (g.1 (.inl h2))]
  · exact LogR.same hx h g
theorem AtC.same {x y z s t : Nat} (h : AtC x y z s) (g : AtC x y z t) : SameF .f32 s t := by
  obtain ⟨a, b, l, m, c, d, k, n, h1, h2, h3, h4, h5, h6, h7, h8, h9⟩ := h
  obtain ⟨a', b', l', m', c', d', k', n', g1, g2, g3, g4, g5, g6, g7, g8, g9⟩ := g
  have eb := fop_same h2 g2 rfl (fop_same h1 g1 rfl rfl)
  have el := LogR.samef (wf32 h2.wf) eb h3 g3
  have ed := fop_same h6 g6 rfl rfl
  have ek := LogR.samef (wf32 h6.wf) ed h7 g7
  exact fop_same h9 g9 (fop_same h4 g4 rfl el) (fop_same h8 g8 (fop_same h5 g5 rfl rfl) ek)
def partB (z : Nat) : Bool := geB z 0 && ltB z 1065353216
theorem log_wild {b l : Nat} (hb : wild b) (h : LogR b l) : wild l := by
  rcases hb with hb | ⟨t, rfl⟩
  · exact .inl (h.1 (.inl hb))
  · cases t
    · have := h.2.2.1 rfl
      exact .inr ⟨false, this⟩
    · exact .inl (h.1 (.inr (by decide)))
theorem AtC.inf {x z s : Nat} (h : AtC x 2139095040 z s) : finB3 s = false := by
  obtain ⟨a, b, l, m, c, d, k, n, h1, h2, h3, h4, h5, h6, h7, h8, h9⟩ := h
  have w0 : wild 2139095040 := .inr ⟨false, rfl⟩
  exact wild_fin (add_wild (mul_wild (log_wild (add_wild_right (mul_wild w0 h1) (by decide +kernel) h2) h3) h4) h9)

abbrev okA (x y z : Nat) : Prop := shareB x = true ∧ gtB y 0 = true ∧ partB z = true
abbrev okB (x y z : Nat) : Prop := shareB x = true ∧ aboveB y = true ∧ partB z = true
def AtR (x y z r : Nat) (t : Bool) : Prop := (okA x y z → ∃ s, AtC x y z s ∧ (r, t) = finOut s) ∧ (¬ okA x y z → r = 0 ∧ t = false)
def AtS (x y z r : Nat) (t : Bool) : Prop := (okB x y z → ∃ s, AtC x y z s ∧ (r, t) = finOut s) ∧ (¬ okB x y z → r = 0 ∧ t = false)
theorem AtR.samef {x y z r q : Nat} {t u : Bool} (hx : x < 4294967296) (hy : y < 4294967296) (hz : z < 4294967296) (h : AtR x y z r t) (g : AtS x y z q u) : SameF .f32 r q ∧ t = u := by
  have key : r = q ∧ t = u := by
    by_cases h1 : okA x y z
    · obtain ⟨s, hs, e⟩ := h.1 h1
      by_cases h2 : finB3 y = true
      · obtain ⟨s', hs', e'⟩ := g.1 ⟨h1.1, by unfold aboveB; rw [h2, h1.2.1]; rfl, h1.2.2⟩
        rw [out_same (f := finOut) (fun _ hn => finOut_nan (fin_notNan hn)) (hs.same hs'), ← e'] at e
        exact Prod.mk.inj e
      · have hi := above_inf hy h1.2.1 (Bool.eq_false_iff.2 h2)
        subst hi
        rw [finOut_nan hs.inf] at e
        obtain ⟨e1, e2⟩ := Prod.mk.inj e
        obtain ⟨g1, g2⟩ := g.2 (fun k => h2 (by have := k.2.1; unfold aboveB at this; rw [Bool.and_eq_true] at this; exact this.1))
        exact ⟨by rw [e1, g1], by rw [e2, g2]⟩
    · obtain ⟨e1, e2⟩ := h.2 h1
      obtain ⟨g1, g2⟩ := g.2 (fun k => h1 ⟨k.1, by have := k.2.1; unfold aboveB at this; rw [Bool.and_eq_true] at this; exact this.2, k.2.2⟩)
      exact ⟨by rw [e1, g1], by rw [e2, g2]⟩
  obtain ⟨rfl, e⟩ := key
  exact ⟨rfl, e⟩

set_option maxRecDepth 100000 in
set_option maxHeartbeats 2000000 in
theorem growat_impl (x y z : Nat) (hx : x < 4294967296) (hy : y < 4294967296) (hz : z < 4294967296) (w : World) :
    Calls Try.prog 19 #[.float .f32 x, .float .f32 y, .float .f32 z] w fun e w' => ∃ r t, e = .returned (.tuple #[.float .f32 r, .bool t]) ∧ AtR x y z r t ∧ Drawn w w' := by
  have Hc := Lib.hid (fun v => chance_impl x v)
  have HL := Lib.hid (fun x hx v => log_any x hx v)
  have HN := Lib.hid (fun x hx v => number_impl x hx v)
  have Hno : Hid (¬ okA x y z → AtR x y z 0 false) := Lib.hid (fun h => ⟨fun k => absurd k h, fun _ => ⟨rfl, rfl⟩⟩)
  have Hyes : Hid (okA x y z → ∀ s, AtC x y z s → AtR x y z (finOut s).1 (finOut s).2) := Lib.hid (fun hk s h => ⟨fun _ => ⟨s, h, rfl⟩, fun k => absurd hk k⟩)
  cases hs : shareB x
  · have HR := Lib.hid (Hno.out (fun h => by have := h.1; rw [hs] at this; exact Bool.false_ne_true this))
    rw [hs] at Hc
    clear hs Hyes
    go_enter Try.func19, Try.ntmps19
    go_wp2_with (first | (go_at_call 28; refine (Hc.out _).mono ?_; rintro e w' ⟨rfl, rfl⟩))
    go_ret2
    exact ⟨_, _, rfl, HR.out, (by first | exact Drawn.refl _ | exact ⟨_, rfl⟩)⟩
  · cases hg : (FloatKind.f32.format.order y 0 == some .gt)
    · have HR := Lib.hid (Hno.out (fun h => by have := h.2.1; unfold gtB at this; rw [hg] at this; exact Bool.false_ne_true this))
      rw [hs] at Hc
      clear hs Hyes
      go_enter Try.func19, Try.ntmps19
      go_wp2_with (first | (go_at_call 28; refine (Hc.out _).mono ?_; rintro e w' ⟨rfl, rfl⟩))
      go_ret2
      exact ⟨_, _, rfl, HR.out, (by first | exact Drawn.refl _ | exact ⟨_, rfl⟩)⟩
    · have HG := Lib.hid hg
      have HS := Lib.hid hs
      cases h1 : (FloatKind.f32.format.order z 0 == some .gt || FloatKind.f32.format.order z 0 == some .eq)
      · have HR := Lib.hid (Hno.out (fun h => by have := h.2.2; unfold partB geB at this; rw [h1] at this; exact Bool.false_ne_true this))
        rw [hs] at Hc
        clear hs
        go_enter Try.func19, Try.ntmps19
        go_wp2_with (first | (go_at_call 28; refine (Hc.out _).mono ?_; rintro e w' ⟨rfl, rfl⟩))
        go_ret2
        exact ⟨_, _, rfl, HR.out, (by first | exact Drawn.refl _ | exact ⟨_, rfl⟩)⟩
      · cases h2 : (FloatKind.f32.format.order z 1065353216 == some .lt)
        · have HR := Lib.hid (Hno.out (fun h => by have := h.2.2; unfold partB geB ltB at this; rw [h1, h2] at this; exact Bool.false_ne_true this))
          rw [hs] at Hc
          clear hs
          go_enter Try.func19, Try.ntmps19
          go_wp2_with (first | (go_at_call 28; refine (Hc.out _).mono ?_; rintro e w' ⟨rfl, rfl⟩))
          go_ret2
          exact ⟨_, _, rfl, HR.out, (by first | exact Drawn.refl _ | exact ⟨_, rfl⟩)⟩
        · have HY := Lib.hid (Hyes.out ⟨HS.out, HG.out, by unfold partB geB ltB; rw [h1, h2]; rfl⟩)
          rw [hs] at Hc
          clear hs
          go_enter Try.func19, Try.ntmps19
          go_upto_region 4 with (first | (go_at_call 28; refine (Hc.out _).mono ?_; rintro e w' ⟨rfl, rfl⟩) | (refine wpList_farith rfl .mul _ _ _ _ rfl (by simp) .f32 z y rfl rfl ?_; intro a na Ha) | (refine wpList_farith rfl .add _ _ _ _ rfl (by simp) .f32 1065353216 a rfl rfl ?_; intro b nb Hb) | (go_at_call 30; refine (HL.out b (wf32 Hb.out.wf) _).mono ?_; rintro e w' ⟨l, nl, rfl, rfl, hl⟩; have Hl := Lib.hid hl; clear hl) | (refine wpList_farith rfl .mul _ _ _ _ rfl (by simp) .f32 x l rfl rfl ?_; intro m nm Hm))
          go_wp2_with (first | (refine wpList_farith rfl .sub _ _ _ _ rfl (by simp) .f32 1065353216 x rfl rfl ?_; intro c nc Hc_) | (refine wpList_farith rfl .sub _ _ _ _ rfl (by simp) .f32 1065353216 z rfl rfl ?_; intro d nd Hd) | (go_at_call 30; refine (HL.out d (wf32 Hd.out.wf) _).mono ?_; rintro e w' ⟨k, nk, rfl, rfl, hk⟩; have Hk := Lib.hid hk; clear hk) | (refine wpList_farith rfl .mul _ _ _ _ rfl (by simp) .f32 c k rfl rfl ?_; intro n nn Hn) | (refine wpList_farith rfl .add _ _ _ _ rfl (by simp) .f32 m n rfl rfl ?_; intro s ns Hs) | (go_at_call 18; refine (HN.out s (wf32 Hs.out.wf) _).mono ?_; rintro e w' ⟨rfl, hdr⟩; have Hdr := Lib.hid hdr; clear hdr))
          go_ret2
          exact ⟨_, _, rfl, HY.out s ⟨a, b, l, m, c, d, k, n, Ha.out, Hb.out, Hl.out, Hm.out, Hc_.out, Hd.out, Hk.out, Hn.out, Hs.out⟩, Drawn.trans ⟨_, rfl⟩ Hdr.out⟩

