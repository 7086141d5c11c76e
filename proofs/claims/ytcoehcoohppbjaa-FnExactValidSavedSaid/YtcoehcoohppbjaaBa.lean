/- Desks by value: what they read as; boxes of three cells; the law's helpers at desks. -/
import Derived.Test.YtcoehcoohppbjaaMa
import Derived.Deep.RegionLawGrows
set_option linter.unusedVariables false
namespace Go.Proofs.Ytcoehcoohppbjaa
open Go.RowKit
/-- block b is a box of so many cells -/
def BxK (w : World) (b : Nat) (t : TypeId) (cs : Array Value) : Prop := w.heap[b]? = some (.cells cs t (0, 0))
theorem BxK.lt {w : World} {b : Nat} {t : TypeId} {cs : Array Value} (h : BxK w b t cs) : b < w.heap.size := (Array.getElem?_eq_some_iff.1 h).1
theorem BxK.new (w : World) (t : TypeId) (cs : Array Value) : BxK (w.alloc (.cells cs t)) w.heap.size t cs := World.alloc_heap_new w _
theorem BxK.below {w w' : World} {n b : Nat} {t : TypeId} {cs : Array Value} (h : BxK w b t cs) (hb : Below n w w') (hn : b < n) : BxK w' b t cs := (hb.block b hn).trans h
theorem BxK.alloc {w : World} {b : Nat} {t : TypeId} {cs : Array Value} (h : BxK w b t cs) (o : Obj) : BxK (w.alloc o) b t cs := (((Below.refl w.heap.size w).alloc (Nat.le_refl _) o).block b h.lt).trans h
theorem BxK.cell {w : World} {b : Nat} {t : TypeId} {cs : Array Value} (h : BxK w b t cs) (i : Nat) {v : Value} (hv : cs[i]? = some v) : w.cell? ⟨b, i, none⟩ = some v := by
  simp [World.cell?, show w.heap[b]? = _ from h, hv]
theorem BxK.frozen {w : World} {b : Nat} {t : TypeId} {cs : Array Value} (h : BxK w b t cs) (i : Nat) : w.frozen? ⟨b, i, none⟩ = false := by
  simp [World.frozen?, show w.heap[b]? = _ from h]
theorem BxK.other {w : World} {B b i : Nat} {t : TypeId} {cs : Array Value} (h : BxK w B t cs) (v : Value) (hne : B ≠ b) : BxK (w.setCell ⟨b, i, none⟩ v) B t cs := (Below.heap_setCell w ⟨b, i, none⟩ v B hne).trans h
theorem BxK.set0 {w : World} {b : Nat} {t : TypeId} {x y z : Value} (h : BxK w b t #[x, y, z]) (v : Value) : BxK (w.setCell ⟨b, 0, none⟩ v) b t #[v, y, z] := by
  obtain ⟨hlt, hk⟩ := Array.getElem?_eq_some_iff.1 h
  show (w.heap.modify b _)[b]? = _
  rw [Array.getElem?_eq_getElem (by rw [Array.size_modify]; exact hlt), Array.getElem_modify_self, hk]
  rfl
theorem BxK.set1 {w : World} {b : Nat} {t : TypeId} {x y z : Value} (h : BxK w b t #[x, y, z]) (v : Value) : BxK (w.setCell ⟨b, 1, none⟩ v) b t #[x, v, z] := by
  obtain ⟨hlt, hk⟩ := Array.getElem?_eq_some_iff.1 h
  show (w.heap.modify b _)[b]? = _
  rw [Array.getElem?_eq_getElem (by rw [Array.size_modify]; exact hlt), Array.getElem_modify_self, hk]
  rfl
theorem BxK.set2 {w : World} {b : Nat} {t : TypeId} {x y z : Value} (h : BxK w b t #[x, y, z]) (v : Value) : BxK (w.setCell ⟨b, 2, none⟩ v) b t #[x, y, v] := by
  obtain ⟨hlt, hk⟩ := Array.getElem?_eq_some_iff.1 h
  show (w.heap.modify b _)[b]? = _
  rw [Array.getElem?_eq_getElem (by rw [Array.size_modify]; exact hlt), Array.getElem_modify_self, hk]
  rfl
/-- v is a desk whose lists read as these -/
def Kv (w : World) (v : Value) (fs gs hs : List Int) : Prop := ∃ a b c, v = .agg #[a, b, c] ∧ Sl (Value.int .i64) 0 w a fs ∧ Sl (Value.int .i64) 0 w b gs ∧ Sl (Value.int .i64) 0 w c hs
/-- .. which may be written, one behind the other, between lo and hi -/
def Kw (w : World) (v : Value) (fs gs hs : List Int) (lo hi : Nat) : Prop := ∃ a b c p q, v = .agg #[a, b, c] ∧ lo ≤ p ∧ p ≤ q ∧ q ≤ hi ∧ hi ≤ w.heap.size ∧ Sw (Value.int .i64) 0 w a fs lo p ∧ Sw (Value.int .i64) 0 w b gs p q ∧ Sw (Value.int .i64) 0 w c hs q hi
theorem Kw.kv {w : World} {v : Value} {fs gs hs : List Int} {lo hi : Nat} (h : Kw w v fs gs hs lo hi) : Kv w v fs gs hs := by
  obtain ⟨a, b, c, p, q, rfl, _, _, _, _, h1, h2, h3⟩ := h
  exact ⟨a, b, c, rfl, h1.sl, h2.sl, h3.sl⟩
theorem Kv.later {w w' : World} {v : Value} {fs gs hs : List Int} (h : Kv w v fs gs hs) (hb : Below w.heap.size w w') : Kv w' v fs gs hs := by
  obtain ⟨a, b, c, rfl, h1, h2, h3⟩ := h
  exact ⟨a, b, c, rfl, h1.later hb, h2.later hb, h3.later hb⟩
theorem Kw.later {w w' : World} {v : Value} {fs gs hs : List Int} {lo hi : Nat} (h : Kw w v fs gs hs lo hi) (hb : Below w.heap.size w w') : Kw w' v fs gs hs lo hi := by
  obtain ⟨a, b, c, p, q, rfl, e1, e2, e3, e4, h1, h2, h3⟩ := h
  exact ⟨a, b, c, p, q, rfl, e1, e2, e3, Nat.le_trans e4 hb.size, h1.later hb, h2.later hb, h3.later hb⟩
theorem Kw.apart {w w' : World} {v : Value} {fs gs hs : List Int} {lo hi l2 h2 : Nat} (h : Kw w v fs gs hs lo hi) (g : Only l2 h2 w w') (ha : hi ≤ l2 ∨ h2 ≤ lo) : Kw w' v fs gs hs lo hi := by
  obtain ⟨a, b, c, p, q, rfl, e1, e2, e3, e4, k1, k2, k3⟩ := h
  exact ⟨a, b, c, p, q, rfl, e1, e2, e3, by rw [g.size]; exact e4, k1.apart g (by omega), k2.apart g (by omega), k3.apart g (by omega)⟩
theorem Kw.still {w w' : World} {v : Value} {fs gs hs : List Int} {lo hi : Nat} (h : Kw w v fs gs hs lo hi) (g : Only 0 0 w w') : Kw w' v fs gs hs lo hi := h.apart g (.inr (Nat.zero_le _))
theorem Kw.mono {w : World} {v : Value} {fs gs hs : List Int} {lo hi lo' hi' : Nat} (h : Kw w v fs gs hs lo hi) (h1 : lo' ≤ lo) (h2 : hi ≤ hi') (h3 : hi' ≤ w.heap.size) : Kw w v fs gs hs lo' hi' := by
  obtain ⟨a, b, c, p, q, rfl, e1, e2, e3, e4, k1, k2, k3⟩ := h
  exact ⟨a, b, c, p, q, rfl, by omega, e2, by omega, h3, k1.mono h1 (Nat.le_refl _) (by omega), k2, k3.mono (Nat.le_refl _) h2 h3⟩
/-- a store into one cell keeps what lies in other blocks -/
theorem only_cell {w : World} (b i : Nat) (v : Value) : Only b (b + 1) w (w.setCell ⟨b, i, none⟩ v) := (Only.refl b (b + 1) w).step' _ _ (Nat.le_refl _) (Nat.lt_succ_self _)
set_option maxHeartbeats 1000000 in
theorem toDesk_any (fs gs hs : List Int) (v : Value) (w : World) (hn0 : fs.length ≤ 1048576) (hn1 : gs.length ≤ 1048576) (hn2 : hs.length ≤ 1048576) (h : Kv w v fs gs hs) :
    Calls Try.prog 17 #[v] w fun e w' => ∃ v', e = .returned v' ∧ Kw w' v' fs gs hs w.heap.size w'.heap.size ∧ Below w.heap.size w w' := by
  obtain ⟨a, b, c, rfl, h0, h1, h2⟩ := h
  have H0 := Lib.hid (fun z (hb : Below w.heap.size w z) => toI_any fs a z hn0 (h0.later hb))
  have H1 := Lib.hid (fun z (hb : Below w.heap.size w z) => toI_any gs b z hn1 (h1.later hb))
  have H2 := Lib.hid (fun z (hb : Below w.heap.size w z) => toI_any hs c z hn2 (h2.later hb))
  clear h0 h1 h2
  go_enter Try.func17, Try.ntmps17
  go_wp2_with fail
  have bel0 := (((Below.refl _ w).alloc (Nat.le_refl _) (.cells #[a, b, c] 24)).alloc (by simp) (.cells #[Value.slice none 0 0, Value.slice none 0 0, Value.slice none 0 0] 27)).alloc (by simp; omega) (.cells #[Value.slice none 0 0, Value.slice none 0 0, Value.slice none 0 0] 27)
  have x0 := ((BxK.new w 24 #[a, b, c]).alloc (.cells #[Value.slice none 0 0, Value.slice none 0 0, Value.slice none 0 0] 27)).alloc (.cells #[Value.slice none 0 0, Value.slice none 0 0, Value.slice none 0 0] 27)
  have x1 := (BxK.new (w.alloc (.cells #[a, b, c] 24)) 27 #[Value.slice none 0 0, Value.slice none 0 0, Value.slice none 0 0]).alloc (.cells #[Value.slice none 0 0, Value.slice none 0 0, Value.slice none 0 0] 27)
  have x2 := BxK.new ((w.alloc (.cells #[a, b, c] 24)).alloc (.cells #[Value.slice none 0 0, Value.slice none 0 0, Value.slice none 0 0] 27)) 27 #[Value.slice none 0 0, Value.slice none 0 0, Value.slice none 0 0]
  simp only [World.size_alloc] at x1 x2
  have hz : (((w.alloc (.cells #[a, b, c] 24)).alloc (.cells #[Value.slice none 0 0, Value.slice none 0 0, Value.slice none 0 0] 27)).alloc (.cells #[Value.slice none 0 0, Value.slice none 0 0, Value.slice none 0 0] 27)).heap.size = w.heap.size + 3 := by simp
  generalize hu : (((w.alloc (.cells #[a, b, c] 24)).alloc (.cells #[Value.slice none 0 0, Value.slice none 0 0, Value.slice none 0 0] 27)).alloc (.cells #[Value.slice none 0 0, Value.slice none 0 0, Value.slice none 0 0] 27)) = u0 at *
  clear hu
  refine (H0.out _ bel0).mono ?_
  rintro e y0 ⟨s0, rfl, t0, hb⟩
  have Hy0 := Lib.hid (below_step bel0 hb (by have := bel0.size; omega))
  have hz0 := hb.size
  replace x0 := x0.below hb (by omega)
  replace x1 := x1.below hb (by omega)
  replace x2 := x2.below hb (by omega)
  have T0 := Lib.hid t0
  clear hb bel0
  obtain ⟨p0, c0, rfl, -⟩ := t0
  have k0 := x0.cell 1 rfl
  have k2 := x2.cell 0 rfl
  have g2 := x2.frozen 0
  have bel1 := Lib.hid (Hy0.out.setCell (p := ⟨w.heap.size + 1 + 1, 0, none⟩) (by show _ ≤ w.heap.size + 1 + 1; omega) (.slice p0 (fs).length c0))
  have q0 := Lib.hid (x0.other (b := w.heap.size + 1 + 1) (i := 0) (.slice p0 (fs).length c0) (by omega))
  have q1 := Lib.hid (x1.other (b := w.heap.size + 1 + 1) (i := 0) (.slice p0 (fs).length c0) (by omega))
  have q2 := Lib.hid (x2.set0 (.slice p0 (fs).length c0))
  replace T0 := Lib.hid (T0.out.apart (only_cell (w.heap.size + 1 + 1) 0 (.slice p0 (fs).length c0)) (.inr (by omega)))
  have kz : (y0.setCell ⟨w.heap.size + 1 + 1, 0, none⟩ (.slice p0 (fs).length c0)).heap.size = y0.heap.size := by simp [World.setCell]
  clear x0 x1 x2 Hy0
  go_wp2_with fail
  clear k0 k2 g2
  replace x0 := q0.out
  replace x1 := q1.out
  replace x2 := q2.out
  clear q0 q1 q2
  have bel1 := bel1.out
  generalize hu : y0.setCell ⟨w.heap.size + 1 + 1, 0, none⟩ (.slice p0 (fs).length c0) = u1 at *
  clear hu
  refine (H1.out _ bel1).mono ?_
  rintro e y1 ⟨s1, rfl, t1, hb⟩
  have Hy1 := Lib.hid (below_step bel1 hb (by have := bel1.size; omega))
  have hz1 := hb.size
  replace x0 := x0.below hb (by omega)
  replace x1 := x1.below hb (by omega)
  replace x2 := x2.below hb (by omega)
  replace T0 := Lib.hid (T0.out.later hb)
  have T1 := Lib.hid t1
  clear hb bel1
  obtain ⟨p1, c1, rfl, -⟩ := t1
  have k0 := x0.cell 2 rfl
  have k2 := x2.cell 1 rfl
  have g2 := x2.frozen 1
  have bel2 := Lib.hid (Hy1.out.setCell (p := ⟨w.heap.size + 1 + 1, 1, none⟩) (by show _ ≤ w.heap.size + 1 + 1; omega) (.slice p1 (gs).length c1))
  have q0 := Lib.hid (x0.other (b := w.heap.size + 1 + 1) (i := 1) (.slice p1 (gs).length c1) (by omega))
  have q1 := Lib.hid (x1.other (b := w.heap.size + 1 + 1) (i := 1) (.slice p1 (gs).length c1) (by omega))
  have q2 := Lib.hid (x2.set1 (.slice p1 (gs).length c1))
  replace T0 := Lib.hid (T0.out.apart (only_cell (w.heap.size + 1 + 1) 1 (.slice p1 (gs).length c1)) (.inr (by omega)))
  replace T1 := Lib.hid (T1.out.apart (only_cell (w.heap.size + 1 + 1) 1 (.slice p1 (gs).length c1)) (.inr (by omega)))
  have kz : (y1.setCell ⟨w.heap.size + 1 + 1, 1, none⟩ (.slice p1 (gs).length c1)).heap.size = y1.heap.size := by simp [World.setCell]
  clear x0 x1 x2 Hy1
  go_wp2_with fail
  clear k0 k2 g2
  replace x0 := q0.out
  replace x1 := q1.out
  replace x2 := q2.out
  clear q0 q1 q2
  have bel2 := bel2.out
  generalize hu : y1.setCell ⟨w.heap.size + 1 + 1, 1, none⟩ (.slice p1 (gs).length c1) = u2 at *
  clear hu
  refine (H2.out _ bel2).mono ?_
  rintro e y2 ⟨s2, rfl, t2, hb⟩
  have Hy2 := Lib.hid (below_step bel2 hb (by have := bel2.size; omega))
  have hz2 := hb.size
  replace x0 := x0.below hb (by omega)
  replace x1 := x1.below hb (by omega)
  replace x2 := x2.below hb (by omega)
  replace T0 := Lib.hid (T0.out.later hb)
  replace T1 := Lib.hid (T1.out.later hb)
  have T2 := Lib.hid t2
  clear hb bel2
  obtain ⟨p2, c2, rfl, -⟩ := t2
  have k0 := x0.cell 2 rfl
  have k2 := x2.cell 2 rfl
  have g2 := x2.frozen 2
  have k20 := x2.cell 0 rfl
  have k21 := x2.cell 1 rfl
  have j0 := x1.cell 0 rfl
  have j1 := x1.cell 1 rfl
  have j2 := x1.cell 2 rfl
  have f0 := x1.frozen 0
  have f1 := x1.frozen 1
  have f2 := x1.frozen 2
  have XF := Lib.hid (((((x1.other (b := w.heap.size + 1 + 1) (i := 2) (.slice p2 hs.length c2) (by omega)).set0 (.slice p0 fs.length c0)).set1 (.slice p1 gs.length c1)).set2 (.slice p2 hs.length c2)))
  have BF := Lib.hid ((((Hy2.out.setCell (p := ⟨w.heap.size + 1 + 1, 2, none⟩) (by show _ ≤ w.heap.size + 1 + 1; omega) (.slice p2 hs.length c2)).setCell (p := ⟨w.heap.size + 1, 0, none⟩) (by show _ ≤ w.heap.size + 1; omega) (.slice p0 fs.length c0)).setCell (p := ⟨w.heap.size + 1, 1, none⟩) (by show _ ≤ w.heap.size + 1; omega) (.slice p1 gs.length c1)).setCell (p := ⟨w.heap.size + 1, 2, none⟩) (by show _ ≤ w.heap.size + 1; omega) (.slice p2 hs.length c2))
  have OF := Lib.hid (((((Only.refl 0 (w.heap.size + 3) y2).step' ⟨w.heap.size + 1 + 1, 2, none⟩ (.slice p2 hs.length c2) (Nat.zero_le _) (by show w.heap.size + 1 + 1 < _; omega)).step' ⟨w.heap.size + 1, 0, none⟩ (.slice p0 fs.length c0) (Nat.zero_le _) (by show w.heap.size + 1 < _; omega)).step' ⟨w.heap.size + 1, 1, none⟩ (.slice p1 gs.length c1) (Nat.zero_le _) (by show w.heap.size + 1 < _; omega)).step' ⟨w.heap.size + 1, 2, none⟩ (.slice p2 hs.length c2) (Nat.zero_le _) (by show w.heap.size + 1 < _; omega))
  clear x0 x1 x2 Hy2
  go_wp2
  clear k0 k2 g2 k20 k21 j0 j1 j2 f0 f1 f2
  have q0 := XF.out.cell 0 rfl
  have q1 := XF.out.cell 1 rfl
  have q2 := XF.out.cell 2 rfl
  have OF := OF.out
  have hF := OF.size
  generalize hW : ((((y2.setCell ⟨w.heap.size + 1 + 1, 2, none⟩ (.slice p2 hs.length c2)).setCell ⟨w.heap.size + 1, 0, none⟩ (.slice p0 fs.length c0)).setCell ⟨w.heap.size + 1, 1, none⟩ (.slice p1 gs.length c1)).setCell ⟨w.heap.size + 1, 2, none⟩ (.slice p2 hs.length c2)) = uf at *
  clear hW
  refine bodyPost_ret (v := .agg #[(.slice p0 fs.length c0), (.slice p1 gs.length c1), (.slice p2 hs.length c2)]) ?_ rfl ⟨_, rfl, ?_, BF.out⟩
  · simp [results, Try.results17, go_sem, q0, q1, q2]
  · refine ⟨_, _, _, y0.heap.size, y1.heap.size, rfl, by omega, by omega, by omega, Nat.le_refl _, ?_, ?_, ?_⟩
    · exact (T0.out.apart OF (.inr (by omega))).mono (by omega) (Nat.le_refl _) (by omega)
    · exact (T1.out.apart OF (.inr (by omega))).mono (by omega) (Nat.le_refl _) (by omega)
    · exact (T2.out.apart OF (.inr (by omega))).mono (by omega) (by omega) (Nat.le_refl _)
set_option maxHeartbeats 1000000 in
theorem eqDesk_any (fs gs hs : List Int) (v u : Value) (w : World) (hn0 : fs.length ≤ 1048576) (hn1 : gs.length ≤ 1048576) (hn2 : hs.length ≤ 1048576) (h : Kv w v fs gs hs) (g : Kv w u fs gs hs) :
    Calls Try.prog 19 #[v, u] w fun e w' => e = .returned (.bool true) ∧ Below w.heap.size w w' := by
  obtain ⟨a, b, c, rfl, h0, h1, h2⟩ := h
  obtain ⟨x, y, z, rfl, g0, g1, g2⟩ := g
  have H0 := Lib.hid (fun z2 (hb : Below w.heap.size w z2) => eqI_any fs a x z2 hn0 (h0.later hb) (g0.later hb))
  have H1 := Lib.hid (fun z2 (hb : Below w.heap.size w z2) => eqI_any gs b y z2 hn1 (h1.later hb) (g1.later hb))
  have H2 := Lib.hid (fun z2 (hb : Below w.heap.size w z2) => eqI_any hs c z z2 hn2 (h2.later hb) (g2.later hb))
  clear h0 h1 h2 g0 g1 g2
  go_enter Try.func19, Try.ntmps19
  go_wp2_with fail
  have bel0 := Lib.hid (((Below.refl _ w).alloc (Nat.le_refl _) (.cells #[a, b, c] 27)).alloc (by simp) (.cells #[x, y, z] 27))
  have x0 := Lib.hid ((BxK.new w 27 #[a, b, c]).alloc (.cells #[x, y, z] 27))
  have x1 := Lib.hid (BxK.new (w.alloc (.cells #[a, b, c] 27)) 27 #[x, y, z])
  simp only [World.size_alloc] at x1
  generalize hu : ((w.alloc (.cells #[a, b, c] 27)).alloc (.cells #[x, y, z] 27)) = u0 at *
  clear hu
  refine (H0.out _ bel0.out).mono ?_
  rintro e u1 ⟨rfl, ho⟩
  have bel1 := Lib.hid (Below.still bel0.out ho)
  replace x0 : Hid (BxK _ _ _ _) := Lib.hid ((ho.block _ (by omega)).trans x0.out)
  replace x1 : Hid (BxK _ _ _ _) := Lib.hid ((ho.block _ (by omega)).trans x1.out)
  clear ho bel0
  have k0 := x0.out.cell 1 rfl
  have k1 := x1.out.cell 1 rfl
  go_wp2_with fail
  clear k0 k1
  refine (H1.out _ bel1.out).mono ?_
  rintro e u2 ⟨rfl, ho⟩
  have bel2 := Lib.hid (Below.still bel1.out ho)
  replace x0 : Hid (BxK _ _ _ _) := Lib.hid ((ho.block _ (by omega)).trans x0.out)
  replace x1 : Hid (BxK _ _ _ _) := Lib.hid ((ho.block _ (by omega)).trans x1.out)
  clear ho bel1
  have k0 := x0.out.cell 2 rfl
  have k1 := x1.out.cell 2 rfl
  go_wp2_with fail
  clear k0 k1
  refine (H2.out _ bel2.out).mono ?_
  rintro e u3 ⟨rfl, ho⟩
  have bel3 := Lib.hid (Below.still bel2.out ho)
  replace x0 : Hid (BxK _ _ _ _) := Lib.hid ((ho.block _ (by omega)).trans x0.out)
  replace x1 : Hid (BxK _ _ _ _) := Lib.hid ((ho.block _ (by omega)).trans x1.out)
  clear ho bel2
  go_wp2
  go_ret
  exact ⟨rfl, bel3.out⟩
/-- what is left of a budget behind three lists -/
def szV3 (n m k : Nat) (left : Int) : Int := if szV n left < 0 then -1 else if szV m (szV n left) < 0 then -1 else szV k (szV m (szV n left))
theorem szV_cases (n : Nat) (left : Int) (h1 : left ≤ 1048576) : szV n left = -1 ∨ (0 ≤ szV n left ∧ szV n left ≤ 1048576 ∧ (n : Int) + szV n left = left) := by unfold szV; split <;> omega
theorem szV3_small (n m k : Nat) (left : Int) (h1 : left ≤ 1048576) (h : ¬ szV3 n m k left < 0) : szV3 n m k left ≤ 1048576 ∧ n ≤ 1048576 ∧ m ≤ 1048576 ∧ k ≤ 1048576 := by
  unfold szV3 at h ⊢
  by_cases a : szV n left < 0
  · rw [if_pos a] at h; omega
  rw [if_neg a] at h ⊢
  by_cases b : szV m (szV n left) < 0
  · rw [if_pos b] at h; omega
  rw [if_neg b] at h ⊢
  have c0 := szV_cases n left h1
  have c1 := szV_cases m (szV n left) (by omega)
  have c2 := szV_cases k (szV m (szV n left)) (by omega)
  omega
set_option maxHeartbeats 1000000 in
theorem szDesk_any (fs gs hs : List Int) (v : Value) (left : Int) (w : World) (hn0 : fs.length ≤ maxLen) (hn1 : gs.length ≤ maxLen) (hn2 : hs.length ≤ maxLen) (h : Kv w v fs gs hs) (l1 : left ≤ 1048576) (l0 : 0 ≤ left) :
    Calls Try.prog 15 #[v, .int .i64 left] w fun e w' => e = .returned (.int .i64 (szV3 fs.length gs.length hs.length left)) ∧ Below w.heap.size w w' := by
  obtain ⟨a, b, c, rfl, ⟨p0, c0, rfl, -⟩, ⟨p1, c1, rfl, -⟩, ⟨p2, c2, rfl, -⟩⟩ := h
  have H0 := Lib.hid (fun z l h1 h0 => szI_any p0 fs.length c0 l z hn0 h1 h0)
  have H1 := Lib.hid (fun z l h1 h0 => szI_any p1 gs.length c1 l z hn1 h1 h0)
  have H2 := Lib.hid (fun z l h1 h0 => szI_any p2 hs.length c2 l z hn2 h1 h0)
  generalize fs.length = n at *
  generalize gs.length = m at *
  generalize hs.length = k at *
  clear hn0 hn1 hn2
  have C0 := szV_cases n left l1
  have E := Lib.hid (show szV3 n m k left = if szV n left < 0 then -1 else if szV m (szV n left) < 0 then -1 else szV k (szV m (szV n left)) from rfl)
  generalize szV3 n m k left = R at *
  have hb0 := Lib.hid ((Below.refl _ w).alloc (Nat.le_refl _) (.cells #[.slice p0 n c0, .slice p1 m c1, .slice p2 k c2] 24))
  have x0 := Lib.hid (BxK.new w 24 #[.slice p0 n c0, .slice p1 m c1, .slice p2 k c2])
  go_enter Try.func15, Try.ntmps15
  go_wp2_with fail
  refine (H0.out _ _ l1 l0).mono ?_
  rintro e w2 ⟨rfl, rfl⟩
  have k1 := x0.out.cell 1 rfl
  have k2 := x0.out.cell 2 rfl
  rcases C0 with e0 | ⟨r0, r1, -⟩
  · have hR : R = -1 := by rw [E.out, e0]; rfl
    subst hR
    clear E
    rw [e0]
    go_wp2
    go_ret
    exact ⟨rfl, hb0.out⟩
  have E1 := Lib.hid (E.out.trans (if_neg (by omega)))
  have C1 := szV_cases m (szV n left) r1
  clear E
  generalize szV n left = l2 at *
  go_wp2_with fail
  refine (H1.out _ _ r1 r0).mono ?_
  rintro e w2 ⟨rfl, rfl⟩
  rcases C1 with e0 | ⟨q0, q1, -⟩
  · have hR : R = -1 := by rw [E1.out, e0]; rfl
    subst hR
    clear E1
    rw [e0]
    go_wp2
    go_ret
    exact ⟨rfl, hb0.out⟩
  have E2 := Lib.hid (E1.out.trans (if_neg (by omega)))
  have C2 := szV_cases k (szV m l2) q1
  clear E1
  generalize szV m l2 = l3 at *
  go_wp2_with fail
  refine (H2.out _ _ q1 q0).mono ?_
  rintro e w2 ⟨rfl, rfl⟩
  rw [← E2.out] at C2 ⊢
  clear E2
  generalize hRR : R = RR at *
  have HR := Lib.hid hRR
  clear hRR
  rcases C2 with rfl | ⟨s0, s1, -⟩
  · go_wp2
    go_ret
    exact ⟨ret_int HR.out.symm, hb0.out⟩
  · go_wp2
    go_ret
    exact ⟨ret_int HR.out.symm, hb0.out⟩
set_option maxHeartbeats 1000000 in
theorem markDesk_any (fs gs hs : List Int) (v : Value) (lo hi : Nat) (w : World) (a : Nat) (hn0 : fs.length ≤ 1048576) (hn1 : gs.length ≤ 1048576) (hn2 : hs.length ≤ 1048576) (ha : a ≤ 900000000) (h : Kw w v fs gs hs lo hi) :
    Calls Try.prog 24 #[v, .int .i64 (a : Int)] w fun e w' => e = .returned (.int .i64 ((a + fs.length + gs.length + hs.length : Nat) : Int)) ∧ Kw w' v (marksI a fs.length) (marksI (a + fs.length) gs.length) (marksI (a + fs.length + gs.length) hs.length) lo hi ∧ ∃ w1, Below w.heap.size w w1 ∧ Only lo hi w1 w' := by
  obtain ⟨s0, s1, s2, p, q, rfl, e1, e2, e3, e4, h0, h1, h2⟩ := h
  have hb0 := (Below.refl _ w).alloc (Nat.le_refl _) (.cells #[s0, s1, s2] 27)
  have x0 := Lib.hid (BxK.new w 27 #[s0, s1, s2])
  replace h0 := h0.later hb0
  replace h1 := h1.later hb0
  replace h2 := h2.later hb0
  have hz : (w.alloc (.cells #[s0, s1, s2] 27)).heap.size = w.heap.size + 1 := by simp
  go_enter Try.func24, Try.ntmps24
  go_wp2_with fail
  generalize hu : w.alloc (.cells #[s0, s1, s2] 27) = u0 at *
  clear hu
  have Hb := Lib.hid hb0
  have T0 := Lib.hid h0
  have T1 := Lib.hid h1
  have T2 := Lib.hid h2
  clear hb0 h0 h1 h2
  refine (markI_any fs s0 lo p u0 a hn0 (by omega) T0.out).mono ?_
  rintro e u1 ⟨rfl, ht, ho⟩
  replace T0 := Lib.hid ht
  replace T1 := Lib.hid (T1.out.apart ho (by omega))
  replace T2 := Lib.hid (T2.out.apart ho (by omega))
  have z1 := ho.size
  replace x0 : Hid (BxK _ _ _ _) := Lib.hid ((ho.block _ (by omega)).trans x0.out)
  have O1 := Lib.hid (show Only lo hi u0 u1 from ⟨ho.os, ho.tape, ho.output, ho.size, fun k hk => ho.block k (by omega)⟩)
  clear ho ht
  have k1 := x0.out.cell 1 rfl
  go_wp2_with fail
  clear k1
  refine (markI_any gs s1 p q u1 (a + fs.length) hn1 (by omega) T1.out).mono ?_
  rintro e u2 ⟨rfl, ht, ho⟩
  replace T0 := Lib.hid (T0.out.apart ho (by omega))
  replace T1 := Lib.hid ht
  replace T2 := Lib.hid (T2.out.apart ho (by omega))
  have z2 := ho.size
  replace x0 : Hid (BxK _ _ _ _) := Lib.hid ((ho.block _ (by omega)).trans x0.out)
  have O2 := Lib.hid (show Only lo hi u0 u2 from ⟨ho.os.trans O1.out.os, ho.tape.trans O1.out.tape, ho.output.trans O1.out.output, ho.size.trans O1.out.size, fun k hk => (ho.block k (by omega)).trans (O1.out.block k hk)⟩)
  clear ho ht O1
  have k1 := x0.out.cell 2 rfl
  go_wp2_with fail
  clear k1
  refine (markI_any hs s2 q hi u2 (a + fs.length + gs.length) hn2 (by omega) T2.out).mono ?_
  rintro e u3 ⟨rfl, ht, ho⟩
  replace T0 := Lib.hid (T0.out.apart ho (by omega))
  replace T1 := Lib.hid (T1.out.apart ho (by omega))
  replace T2 := Lib.hid ht
  have z3 := ho.size
  have O3 := Lib.hid (show Only lo hi u0 u3 from ⟨ho.os.trans O2.out.os, ho.tape.trans O2.out.tape, ho.output.trans O2.out.output, ho.size.trans O2.out.size, fun k hk => (ho.block k (by omega)).trans (O2.out.block k hk)⟩)
  clear ho ht O2
  go_wp2
  go_ret
  exact ⟨rfl, ⟨_, _, _, p, q, rfl, e1, e2, e3, by omega, T0.out, T1.out, T2.out⟩, _, Hb.out, O3.out⟩
set_option maxHeartbeats 1000000 in
theorem heldDesk_any (n m k : Nat) (v : Value) (lo hi : Nat) (w : World) (a : Nat) (hn0 : n ≤ 1048576) (hn1 : m ≤ 1048576) (hn2 : k ≤ 1048576) (ha : a ≤ 900000000) (h : Kw w v (marksI a n) (marksI (a + n) m) (marksI (a + n + m) k) lo hi) :
    Calls Try.prog 25 #[v, .int .i64 (a : Int)] w fun e w' => e = .returned (.int .i64 ((a + n + m + k : Nat) : Int)) ∧ Below w.heap.size w w' := by
  obtain ⟨s0, s1, s2, p, q, rfl, e1, e2, e3, e4, h0, h1, h2⟩ := h
  have hb0 := (Below.refl _ w).alloc (Nat.le_refl _) (.cells #[s0, s1, s2] 27)
  have x0 := Lib.hid (BxK.new w 27 #[s0, s1, s2])
  have H0 := Lib.hid (fun z (hb : Below w.heap.size w z) => heldI_any n s0 lo p z a hn0 (by omega) (h0.later hb))
  have H1 := Lib.hid (fun z (hb : Below w.heap.size w z) => heldI_any m s1 p q z (a + n) hn1 (by omega) (h1.later hb))
  have H2 := Lib.hid (fun z (hb : Below w.heap.size w z) => heldI_any k s2 q hi z (a + n + m) hn2 (by omega) (h2.later hb))
  clear h0 h1 h2
  have bel0 := Lib.hid hb0
  clear hb0
  go_enter Try.func25, Try.ntmps25
  go_wp2_with fail
  generalize hu : w.alloc (.cells #[s0, s1, s2] 27) = u0 at *
  clear hu
  refine (H0.out _ bel0.out).mono ?_
  rintro e u1 ⟨rfl, ho⟩
  have bel1 := Lib.hid (Below.still bel0.out ho)
  replace x0 : Hid (BxK _ _ _ _) := Lib.hid ((ho.block _ (by omega)).trans x0.out)
  clear ho bel0
  have k0 := x0.out.cell 1 rfl
  go_wp2_with fail
  clear k0
  refine (H1.out _ bel1.out).mono ?_
  rintro e u2 ⟨rfl, ho⟩
  have bel2 := Lib.hid (Below.still bel1.out ho)
  replace x0 : Hid (BxK _ _ _ _) := Lib.hid ((ho.block _ (by omega)).trans x0.out)
  clear ho bel1
  have k0 := x0.out.cell 2 rfl
  go_wp2_with fail
  clear k0
  refine (H2.out _ bel2.out).mono ?_
  rintro e u3 ⟨rfl, ho⟩
  have bel3 := Lib.hid (Below.still bel2.out ho)
  replace x0 : Hid (BxK _ _ _ _) := Lib.hid ((ho.block _ (by omega)).trans x0.out)
  clear ho bel2
  go_wp2
  go_ret
  exact ⟨rfl, bel3.out⟩
end Go.Proofs.Ytcoehcoohppbjaa
