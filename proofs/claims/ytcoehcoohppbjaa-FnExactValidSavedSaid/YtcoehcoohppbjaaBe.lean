/- What is saved, by value: what it reads as; the law's helpers at it. -/
import Derived.Test.YtcoehcoohppbjaaBa
import Derived.Test.YtcoehcoohppbjaaMd
set_option linter.unusedVariables false
namespace Go.Proofs.Ytcoehcoohppbjaa
open Go.RowKit
/-- v is saved: a name, a deck, dice -/
def Vv (w : World) (v : Value) (s : ByteArray) (fs : List Int) (ds : List (List Int)) : Prop := ∃ a b, v = .agg #[.string s, a, b] ∧ Sl (Value.int .i64) 0 w a fs ∧ SlD w b ds
def Vw (w : World) (v : Value) (s : ByteArray) (fs : List Int) (ds : List (List Int)) (lo hi : Nat) : Prop := ∃ a b p, v = .agg #[.string s, a, b] ∧ lo ≤ p ∧ p ≤ hi ∧ hi ≤ w.heap.size ∧ Sw (Value.int .i64) 0 w a fs lo p ∧ SwD w b ds p hi
theorem Vw.vv {w : World} {v : Value} {s : ByteArray} {fs : List Int} {ds : List (List Int)} {lo hi : Nat} (h : Vw w v s fs ds lo hi) : Vv w v s fs ds := by
  obtain ⟨a, b, p, rfl, _, _, _, h1, h2⟩ := h
  exact ⟨a, b, rfl, h1.sl, h2.sl⟩
theorem Vv.later {w w' : World} {v : Value} {s : ByteArray} {fs : List Int} {ds : List (List Int)} (h : Vv w v s fs ds) (hb : Below w.heap.size w w') : Vv w' v s fs ds := by
  obtain ⟨a, b, rfl, h1, h2⟩ := h
  exact ⟨a, b, rfl, h1.later hb, h2.later hb⟩
theorem Vw.later {w w' : World} {v : Value} {s : ByteArray} {fs : List Int} {ds : List (List Int)} {lo hi : Nat} (h : Vw w v s fs ds lo hi) (hb : Below w.heap.size w w') : Vw w' v s fs ds lo hi := by
  obtain ⟨a, b, p, rfl, e1, e2, e3, h1, h2⟩ := h
  exact ⟨a, b, p, rfl, e1, e2, Nat.le_trans e3 hb.size, h1.later hb, h2.later hb⟩
theorem SwD.mono {w : World} {v : Value} {ds : List (List Int)} {lo hi lo' hi' : Nat} (h : SwD w v ds lo hi) (h1 : lo' ≤ lo) (h2 : hi ≤ hi') (h3 : hi' ≤ w.heap.size) : SwD w v ds lo' hi' := by
  obtain ⟨p, cap, rfl, h⟩ := h
  refine ⟨p, cap, rfl, fun h0 => ?_⟩
  obtain ⟨hcap, b, rfl, g1, g2, B, g3, g4, g5, hc⟩ := h h0
  exact ⟨hcap, b, rfl, by omega, h3, B, g3, g4, by omega, hc⟩
set_option maxHeartbeats 1000000 in
theorem toSaved_any (s : ByteArray) (fs : List Int) (ds : List (List Int)) (v : Value) (w : World) (hn1 : fs.length ≤ 1048576) (hn2 : ds.length ≤ 1048576) (hm2 : totD ds ds.length ≤ 1048576) (h : Vv w v s fs ds) :
    Calls Try.prog 28 #[v] w fun e w' => ∃ v', e = .returned v' ∧ Vw w' v' s fs ds w.heap.size w'.heap.size ∧ Below w.heap.size w w' := by
  obtain ⟨a, b, rfl, h1, h2⟩ := h
  have H1 := Lib.hid (fun z (hb : Below w.heap.size w z) => toI_any fs a z hn1 (h1.later hb))
  have H2 := Lib.hid (fun z (hb : Below w.heap.size w z) => toDs_any ds b z hn2 hm2 (h2.later hb))
  clear h1 h2
  go_enter Try.func28, Try.ntmps28
  go_wp2_with fail
  have bel0 := (((Below.refl _ w).alloc (Nat.le_refl _) (.cells #[.string s, a, b] 37)).alloc (by simp) (.cells #[Value.string ⟨#[]⟩, Value.slice none 0 0, Value.slice none 0 0] 42)).alloc (by simp; omega) (.cells #[Value.string s, Value.slice none 0 0, Value.slice none 0 0] 42)
  have x0 := ((BxK.new w 37 #[.string s, a, b]).alloc (.cells #[Value.string ⟨#[]⟩, Value.slice none 0 0, Value.slice none 0 0] 42)).alloc (.cells #[Value.string s, Value.slice none 0 0, Value.slice none 0 0] 42)
  have x1 := (BxK.new (w.alloc (.cells #[.string s, a, b] 37)) 42 #[Value.string ⟨#[]⟩, Value.slice none 0 0, Value.slice none 0 0]).alloc (.cells #[Value.string s, Value.slice none 0 0, Value.slice none 0 0] 42)
  have x2 := BxK.new ((w.alloc (.cells #[.string s, a, b] 37)).alloc (.cells #[Value.string ⟨#[]⟩, Value.slice none 0 0, Value.slice none 0 0] 42)) 42 #[Value.string s, Value.slice none 0 0, Value.slice none 0 0]
  simp only [World.size_alloc] at x1 x2
  have hz : (((w.alloc (.cells #[.string s, a, b] 37)).alloc (.cells #[Value.string ⟨#[]⟩, Value.slice none 0 0, Value.slice none 0 0] 42)).alloc (.cells #[Value.string s, Value.slice none 0 0, Value.slice none 0 0] 42)).heap.size = w.heap.size + 3 := by simp
  generalize hu : (((w.alloc (.cells #[.string s, a, b] 37)).alloc (.cells #[Value.string ⟨#[]⟩, Value.slice none 0 0, Value.slice none 0 0] 42)).alloc (.cells #[Value.string s, Value.slice none 0 0, Value.slice none 0 0] 42)) = u0 at *
  clear hu
  refine (H1.out _ bel0).mono ?_
  rintro e y1 ⟨s1, rfl, t1, hb⟩
  have Hy1 := Lib.hid (below_step bel0 hb (by have := bel0.size; omega))
  have hz1 := hb.size
  replace x0 := x0.below hb (by omega)
  replace x1 := x1.below hb (by omega)
  replace x2 := x2.below hb (by omega)
  have T1 := Lib.hid t1
  clear hb bel0
  obtain ⟨p1, c1, rfl, -⟩ := t1
  have k0 := x0.cell 2 rfl
  have k2 := x2.cell 1 rfl
  have g2 := x2.frozen 1
  have bel2 := Lib.hid (Hy1.out.setCell (p := ⟨w.heap.size + 1 + 1, 1, none⟩) (by show _ ≤ w.heap.size + 1 + 1; omega) (.slice p1 fs.length c1))
  have q0 := Lib.hid (x0.other (b := w.heap.size + 1 + 1) (i := 1) (.slice p1 fs.length c1) (by omega))
  have q1 := Lib.hid (x1.other (b := w.heap.size + 1 + 1) (i := 1) (.slice p1 fs.length c1) (by omega))
  have q2 := Lib.hid (x2.set1 (.slice p1 fs.length c1))
  replace T1 := Lib.hid (T1.out.apart (only_cell (w.heap.size + 1 + 1) 1 (.slice p1 fs.length c1)) (.inr (by omega)))
  have kz : (y1.setCell ⟨w.heap.size + 1 + 1, 1, none⟩ (.slice p1 fs.length c1)).heap.size = y1.heap.size := by simp [World.setCell]
  clear x0 x1 x2 Hy1
  go_wp2_with fail
  clear k0 k2 g2
  replace x0 := q0.out
  replace x1 := q1.out
  replace x2 := q2.out
  clear q0 q1 q2
  have bel2 := bel2.out
  generalize hu : y1.setCell ⟨w.heap.size + 1 + 1, 1, none⟩ (.slice p1 fs.length c1) = u1 at *
  clear hu
  refine (H2.out _ bel2).mono ?_
  rintro e y2 ⟨s2, rfl, t2, hb⟩
  have Hy2 := Lib.hid (below_step bel2 hb (by have := bel2.size; omega))
  have hz2 := hb.size
  replace x0 := x0.below hb (by omega)
  replace x1 := x1.below hb (by omega)
  replace x2 := x2.below hb (by omega)
  replace T1 := Lib.hid (T1.out.later hb)
  have T2 := Lib.hid t2
  clear hb bel2
  obtain ⟨p2, c2, rfl, -⟩ := t2
  have k0 := x0.cell 2 rfl
  have k2 := x2.cell 2 rfl
  have g2 := x2.frozen 2
  have k20 := x2.cell 0 rfl
  have k21 := x2.cell 1 rfl
  have j0 := x1.cell 0 rfl
  have j1 := x1.cell 1 rfl
  have j2 := x1.cell 2 rfl
  have f0 := x1.frozen 0
  have f1 := x1.frozen 1
  have f2 := x1.frozen 2
  have XF := Lib.hid (((((x1.other (b := w.heap.size + 1 + 1) (i := 2) (.slice p2 ds.length c2) (by omega)).set0 (.string s)).set1 (.slice p1 fs.length c1)).set2 (.slice p2 ds.length c2)))
  have BF := Lib.hid ((((Hy2.out.setCell (p := ⟨w.heap.size + 1 + 1, 2, none⟩) (by show _ ≤ w.heap.size + 1 + 1; omega) (.slice p2 ds.length c2)).setCell (p := ⟨w.heap.size + 1, 0, none⟩) (by show _ ≤ w.heap.size + 1; omega) (.string s)).setCell (p := ⟨w.heap.size + 1, 1, none⟩) (by show _ ≤ w.heap.size + 1; omega) (.slice p1 fs.length c1)).setCell (p := ⟨w.heap.size + 1, 2, none⟩) (by show _ ≤ w.heap.size + 1; omega) (.slice p2 ds.length c2))
  have OF := Lib.hid (((((Only.refl 0 (w.heap.size + 3) y2).step' ⟨w.heap.size + 1 + 1, 2, none⟩ (.slice p2 ds.length c2) (Nat.zero_le _) (by show w.heap.size + 1 + 1 < _; omega)).step' ⟨w.heap.size + 1, 0, none⟩ (.string s) (Nat.zero_le _) (by show w.heap.size + 1 < _; omega)).step' ⟨w.heap.size + 1, 1, none⟩ (.slice p1 fs.length c1) (Nat.zero_le _) (by show w.heap.size + 1 < _; omega)).step' ⟨w.heap.size + 1, 2, none⟩ (.slice p2 ds.length c2) (Nat.zero_le _) (by show w.heap.size + 1 < _; omega))
  clear x0 x1 x2 Hy2
  go_wp2
  clear k0 k2 g2 k20 k21 j0 j1 j2 f0 f1 f2
  have q0 := XF.out.cell 0 rfl
  have q1 := XF.out.cell 1 rfl
  have q2 := XF.out.cell 2 rfl
  have OF := OF.out
  have hF := OF.size
  generalize hW : ((((y2.setCell ⟨w.heap.size + 1 + 1, 2, none⟩ (.slice p2 ds.length c2)).setCell ⟨w.heap.size + 1, 0, none⟩ (.string s)).setCell ⟨w.heap.size + 1, 1, none⟩ (.slice p1 fs.length c1)).setCell ⟨w.heap.size + 1, 2, none⟩ (.slice p2 ds.length c2)) = uf at *
  clear hW
  refine bodyPost_ret (v := .agg #[(.string s), (.slice p1 fs.length c1), (.slice p2 ds.length c2)]) ?_ rfl ⟨_, rfl, ?_, BF.out⟩
  · simp [results, Try.results28, go_sem, q0, q1, q2]
  · refine ⟨_, _, y1.heap.size, rfl, by omega, by omega, Nat.le_refl _, ?_, ?_⟩
    · exact (T1.out.apart OF (.inr (by omega))).mono (by omega) (Nat.le_refl _) (by omega)
    · exact (T2.out.apart OF (.inr (by omega))).mono (by omega) (by omega) (Nat.le_refl _)
set_option maxHeartbeats 1000000 in
theorem eqSaved_any (s : ByteArray) (fs : List Int) (ds : List (List Int)) (v u : Value) (w : World) (hn1 : fs.length ≤ 1048576) (hn2 : ds.length ≤ 1048576) (hm2 : totD ds ds.length ≤ 1048576) (h : Vv w v s fs ds) (g : Vv w u s fs ds) :
    Calls Try.prog 30 #[v, u] w fun e w' => e = .returned (.bool true) ∧ Below w.heap.size w w' := by
  obtain ⟨a, b, rfl, h1, h2⟩ := h
  obtain ⟨x, y, rfl, g1, g2⟩ := g
  have H1 := Lib.hid (fun z2 (hb : Below w.heap.size w z2) => eqI_any fs a x z2 hn1 (h1.later hb) (g1.later hb))
  have H2 := Lib.hid (fun z2 (hb : Below w.heap.size w z2) => eqDs_any ds b y z2 hn2 hm2 (h2.later hb) (g2.later hb))
  clear h1 h2 g1 g2
  go_enter Try.func30, Try.ntmps30
  go_wp2_with fail
  have bel0 := Lib.hid (((Below.refl _ w).alloc (Nat.le_refl _) (.cells #[.string s, a, b] 42)).alloc (by simp) (.cells #[.string s, x, y] 42))
  have x0 := Lib.hid ((BxK.new w 42 #[.string s, a, b]).alloc (.cells #[.string s, x, y] 42))
  have x1 := Lib.hid (BxK.new (w.alloc (.cells #[.string s, a, b] 42)) 42 #[.string s, x, y])
  simp only [World.size_alloc] at x1
  generalize hu : ((w.alloc (.cells #[.string s, a, b] 42)).alloc (.cells #[.string s, x, y] 42)) = u0 at *
  clear hu
  refine (H1.out _ bel0.out).mono ?_
  rintro e u1 ⟨rfl, ho⟩
  have bel1 := Lib.hid (Below.still bel0.out ho)
  replace x0 : Hid (BxK _ _ _ _) := Lib.hid ((ho.block _ (by omega)).trans x0.out)
  replace x1 : Hid (BxK _ _ _ _) := Lib.hid ((ho.block _ (by omega)).trans x1.out)
  clear ho bel0
  have k0 := x0.out.cell 2 rfl
  have k1 := x1.out.cell 2 rfl
  go_wp2_with fail
  clear k0 k1
  refine (H2.out _ bel1.out).mono ?_
  rintro e u2 ⟨rfl, hb⟩
  have bel2 := Lib.hid (below_step bel1.out hb (Nat.le_refl _))
  clear hb
  go_wp2
  go_ret
  exact ⟨rfl, bel2.out⟩
set_option maxHeartbeats 1000000 in
theorem szSaved_any (s : ByteArray) (fs : List Int) (ds : List (List Int)) (v : Value) (left : Int) (w : World) (hn0 : s.size ≤ maxLen) (hn1 : fs.length ≤ maxLen) (hn2 : ds.length ≤ maxLen) (hm2 : ∀ i, i < ds.length → (ds.getD i []).length ≤ maxLen) (h : Vv w v s fs ds) (l1 : left ≤ 1048576) (l0 : 0 ≤ left) :
    Calls Try.prog 26 #[v, .int .i64 left] w fun e w' => e = .returned (.int .i64 (szV3 s.size fs.length (ds.length + totD ds ds.length) left)) ∧ Below w.heap.size w w' := by
  obtain ⟨a, b, rfl, h1, h2⟩ := h
  have H2 := Lib.hid (fun z (hb : Below w.heap.size w z) l (k1 : l ≤ 1048576) (k0 : 0 ≤ l) => szDs_any ds b l z hn2 hm2 (h2.later hb) k1 k0)
  obtain ⟨p1, c1, rfl, -⟩ := h1
  have H1 := Lib.hid (fun z l h1 h0 => szI_any p1 fs.length c1 l z hn1 h1 h0)
  clear h2 hm2 hn2
  generalize ds.length + totD ds ds.length = k at *
  generalize fs.length = m at *
  clear hn1
  unfold maxLen at hn0
  have C0 := szV_cases s.size left l1
  have E0 := Lib.hid (show szV s.size left = if left - s.size < 0 then -1 else left - s.size from rfl)
  have E := Lib.hid (show szV3 s.size m k left = if szV s.size left < 0 then -1 else if szV m (szV s.size left) < 0 then -1 else szV k (szV m (szV s.size left)) from rfl)
  generalize szV3 s.size m k left = R at *
  have hb0 := Lib.hid ((Below.refl _ w).alloc (Nat.le_refl _) (.cells #[.string s, .slice p1 m c1, b] 37))
  have x0 := Lib.hid (BxK.new w 37 #[.string s, .slice p1 m c1, b])
  by_cases hneg : left - s.size < 0
  · have e0 := E0.out.trans (if_pos hneg)
    have HR := Lib.hid (show R = -1 by rw [E.out, e0]; rfl)
    clear E E0 e0 C0
    go_enter Try.func26, Try.ntmps26
    go_wp2
    go_ret
    exact ⟨ret_int HR.out.symm, hb0.out⟩
  have e0 := E0.out.trans (if_neg hneg)
  have E1 := Lib.hid (E.out.trans (if_neg (by omega)))
  obtain ⟨r0, r1⟩ : 0 ≤ left - (s.size : Int) ∧ left - (s.size : Int) ≤ 1048576 := ⟨by omega, by omega⟩
  rw [e0] at E1
  have C1 := szV_cases m (left - s.size) r1
  clear E E0 e0 C0
  go_enter Try.func26, Try.ntmps26
  go_wp2_with fail
  generalize left - (s.size : Int) = l2 at *
  refine (H1.out _ _ r1 r0).mono ?_
  rintro e w2 ⟨rfl, rfl⟩
  have k1 := x0.out.cell 1 rfl
  have k2 := x0.out.cell 2 rfl
  rcases C1 with e0 | ⟨q0, q1, -⟩
  · have hR : R = -1 := by rw [E1.out, e0]; rfl
    subst hR
    clear E1
    rw [e0]
    go_wp2
    go_ret
    exact ⟨rfl, hb0.out⟩
  have E2 := Lib.hid (E1.out.trans (if_neg (by omega)))
  have C2 := szV_cases k (szV m l2) q1
  clear E1
  generalize szV m l2 = l3 at *
  go_wp2_with fail
  refine (H2.out _ hb0.out _ q1 q0).mono ?_
  rintro e w2 ⟨rfl, hb⟩
  have hb1 := Lib.hid (below_step hb0.out hb (Nat.le_refl _))
  clear hb
  rw [← E2.out] at C2 ⊢
  clear E2
  generalize hRR : R = RR at *
  have HR := Lib.hid hRR
  clear hRR
  rcases C2 with rfl | ⟨s0, s1, -⟩
  · go_wp2
    go_ret
    exact ⟨ret_int HR.out.symm, hb1.out⟩
  · go_wp2
    go_ret
    exact ⟨ret_int HR.out.symm, hb1.out⟩
end Go.Proofs.Ytcoehcoohppbjaa
