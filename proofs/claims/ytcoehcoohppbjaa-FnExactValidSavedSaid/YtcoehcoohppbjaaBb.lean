/- Contracts: desks are valid, desks are the same, in both texts. -/
import Derived.Test.YtcoehcoohppbjaaBa
import Derived.Test.YtcoehcoohppbjaaDk
import Derived.Test.YtcoehcoohppbjaaZc
import Derived.Test.YtcoehcoohppbjaaWb
set_option linter.unusedVariables false
namespace Go.Proofs.Ytcoehcoohppbjaa
open Go.RowKit
theorem calls_same {P : Program} {f : FuncId} {a : Array Value} {w : World} {r : Value} (h : Calls P f a w fun e w' => e = .returned r ∧ w = w') : Calls P f a w fun e w' => e = .returned r ∧ Below w.heap.size w w' := h.mono fun e w' ⟨h1, h2⟩ => ⟨h1, by subst h2; exact Below.refl _ _⟩
theorem calls_drawn {P : Program} {f : FuncId} {a : Array Value} {w : World} {r : Value} (h : Calls P f a w fun e w' => e = .returned r ∧ Drawn w w') : Calls P f a w fun e w' => e = .returned r ∧ Below w.heap.size w w' := h.mono fun e w' ⟨h1, h2⟩ => ⟨h1, h2.below _⟩
def deskB (fs gs hs : List Int) : Bool := (deckB fs && tileB gs) && wordB hs 6
set_option maxRecDepth 100000 in
set_option maxHeartbeats 4000000 in
theorem impl_desk (fs gs hs : List Int) (v : Value) (w : World) (hn0 : fs.length ≤ 1048576) (hn1 : gs.length ≤ 1048576) (hn2 : hs.length ≤ 1048576) (h : Kv w v fs gs hs) :
    Calls Try.prog 18 #[v] w fun e w' => e = .returned (.bool (deskB fs gs hs)) ∧ Below w.heap.size w w' := by
  obtain ⟨a, b, c, rfl, h0, h1, h2⟩ := h
  have H0 := Lib.hid (fun z (hb : Below w.heap.size w z) => impl_IsDeck fs a z hn0 (h0.later hb))
  have H1 := Lib.hid (fun z (hb : Below w.heap.size w z) => impl_IsTileHand gs b z hn1 (h1.later hb))
  have H2 := Lib.hid (fun z (hb : Below w.heap.size w z) => impl_IsWord hs c 6 (by omega) (by omega) z hn2 (h2.later hb))
  unfold ok_IsTileHand at H1
  unfold ok_IsWord at H2
  clear h0 h1 h2
  have E := Lib.hid (show deskB fs gs hs = ((deckB fs && tileB gs) && wordB hs 6) from rfl)
  generalize deskB fs gs hs = R at *
  generalize deckB fs = r1 at *
  generalize tileB gs = r2 at *
  generalize wordB hs 6 = r3 at *
  have Bel0 := Lib.hid ((Below.refl _ w).alloc (Nat.le_refl _) (.cells #[a, b, c] 27))
  have X0 := Lib.hid (BxK.new w 27 #[a, b, c])
  go_enter Try.func18, Try.ntmps18
  go_wp2_with fail
  generalize hu : w.alloc (.cells #[a, b, c] 27) = u at *
  clear hu
  have k0_0 := X0.out.cell 0 rfl
  have k1_0 := X0.out.cell 1 rfl
  have k2_0 := X0.out.cell 2 rfl
  cases r1
  · have E2 := Lib.hid (show R = false by rw [E.out]; simp)
    go_wp2_with (first | (go_at_call 64; (with_reducible refine (H0.out _ ?_).mono ?_); (first | exact Bel0.out | exact below_drewN Bel0.out _); rintro e y1 ⟨rfl, hb⟩; have X1 : Hid (BxK y1 _ _ _) := Lib.hid ((hb.block _ X0.out.lt).trans X0.out); have Bel1 : Hid (Below w.heap.size w y1) := Lib.hid (by first | exact below_step Bel0.out hb (Nat.le_refl _) | exact below_step (below_drewN Bel0.out _) hb (Nat.le_refl _)); have k0_1 := X1.out.cell 0 rfl; have k1_1 := X1.out.cell 1 rfl; have k2_1 := X1.out.cell 2 rfl; clear hb))
    all_goals
      go_ret
      first | exact ⟨ret_bool E2.out.symm, below_drewN Bel1.out _⟩ | exact ⟨ret_bool E2.out.symm, Bel1.out⟩
  cases r2
  · have E2 := Lib.hid (show R = false by rw [E.out]; simp)
    go_wp2_with (first | (go_at_call 64; (with_reducible refine (H0.out _ ?_).mono ?_); (first | exact Bel0.out | exact below_drewN Bel0.out _); rintro e y1 ⟨rfl, hb⟩; have X1 : Hid (BxK y1 _ _ _) := Lib.hid ((hb.block _ X0.out.lt).trans X0.out); have Bel1 : Hid (Below w.heap.size w y1) := Lib.hid (by first | exact below_step Bel0.out hb (Nat.le_refl _) | exact below_step (below_drewN Bel0.out _) hb (Nat.le_refl _)); have k0_1 := X1.out.cell 0 rfl; have k1_1 := X1.out.cell 1 rfl; have k2_1 := X1.out.cell 2 rfl; clear hb) | (go_at_call 65; (with_reducible refine (H1.out _ ?_).mono ?_); (first | exact Bel1.out | exact below_drewN Bel1.out _); rintro e y2 ⟨rfl, hb⟩; have X2 : Hid (BxK y2 _ _ _) := Lib.hid ((hb.block _ X1.out.lt).trans X1.out); have Bel2 : Hid (Below w.heap.size w y2) := Lib.hid (by first | exact below_step Bel1.out hb (Nat.le_refl _) | exact below_step (below_drewN Bel1.out _) hb (Nat.le_refl _)); have k0_2 := X2.out.cell 0 rfl; have k1_2 := X2.out.cell 1 rfl; have k2_2 := X2.out.cell 2 rfl; clear hb))
    all_goals
      go_ret
      first | exact ⟨ret_bool E2.out.symm, below_drewN Bel2.out _⟩ | exact ⟨ret_bool E2.out.symm, Bel2.out⟩
  have E2 := Lib.hid (show R = r3 by rw [E.out]; simp)
  go_wp2_with (first | (go_at_call 64; (with_reducible refine (H0.out _ ?_).mono ?_); (first | exact Bel0.out | exact below_drewN Bel0.out _); rintro e y1 ⟨rfl, hb⟩; have X1 : Hid (BxK y1 _ _ _) := Lib.hid ((hb.block _ X0.out.lt).trans X0.out); have Bel1 : Hid (Below w.heap.size w y1) := Lib.hid (by first | exact below_step Bel0.out hb (Nat.le_refl _) | exact below_step (below_drewN Bel0.out _) hb (Nat.le_refl _)); have k0_1 := X1.out.cell 0 rfl; have k1_1 := X1.out.cell 1 rfl; have k2_1 := X1.out.cell 2 rfl; clear hb) | (go_at_call 65; (with_reducible refine (H1.out _ ?_).mono ?_); (first | exact Bel1.out | exact below_drewN Bel1.out _); rintro e y2 ⟨rfl, hb⟩; have X2 : Hid (BxK y2 _ _ _) := Lib.hid ((hb.block _ X1.out.lt).trans X1.out); have Bel2 : Hid (Below w.heap.size w y2) := Lib.hid (by first | exact below_step Bel1.out hb (Nat.le_refl _) | exact below_step (below_drewN Bel1.out _) hb (Nat.le_refl _)); have k0_2 := X2.out.cell 0 rfl; have k1_2 := X2.out.cell 1 rfl; have k2_2 := X2.out.cell 2 rfl; clear hb) | (go_at_call 66; (with_reducible refine (H2.out _ ?_).mono ?_); (first | exact Bel2.out | exact below_drewN Bel2.out _); rintro e y3 ⟨rfl, hb⟩; have X3 : Hid (BxK y3 _ _ _) := Lib.hid ((hb.block _ X2.out.lt).trans X2.out); have Bel3 : Hid (Below w.heap.size w y3) := Lib.hid (by first | exact below_step Bel2.out hb (Nat.le_refl _) | exact below_step (below_drewN Bel2.out _) hb (Nat.le_refl _)); have k0_3 := X3.out.cell 0 rfl; have k1_3 := X3.out.cell 1 rfl; have k2_3 := X3.out.cell 2 rfl; clear hb))
  all_goals
    go_ret
    first | exact ⟨ret_bool E2.out.symm, below_drewN Bel3.out _⟩ | exact ⟨ret_bool E2.out.symm, Bel3.out⟩
set_option maxRecDepth 100000 in
set_option maxHeartbeats 4000000 in
theorem is_desk (fs gs hs : List Int) (B : Nat) (a b c : Value) (w : World) (hn0 : fs.length ≤ 1048576) (hn1 : gs.length ≤ 1048576) (hn2 : hs.length ≤ 1048576) (hx : BxK w B 27 #[a, b, c]) (h0 : Sl (Value.int .i64) 0 w a fs) (h1 : Sl (Value.int .i64) 0 w b gs) (h2 : Sl (Value.int .i64) 0 w c hs) :
    Calls Try.prog 63 #[.pointer (some ⟨B, 0, none⟩)] w fun e w' => e = .returned (.bool (deskB fs gs hs)) ∧ Below w.heap.size w w' := by
  have H0 := Lib.hid (fun z (hb : Below w.heap.size w z) => calls_drawn (deck_any fs a z hn0 (h0.later hb)))
  have H1 := Lib.hid (fun z (hb : Below w.heap.size w z) => calls_same (tiles_spec gs b z hn1 (h1.later hb)))
  have H2 := Lib.hid (fun z (hb : Below w.heap.size w z) => calls_drawn (wordS_any hs c 6 z hn2 (h2.later hb)))
  clear h0 h1 h2
  have E := Lib.hid (show deskB fs gs hs = ((deckB fs && tileB gs) && wordB hs 6) from rfl)
  generalize deskB fs gs hs = R at *
  generalize deckB fs = r1 at *
  generalize tileB gs = r2 at *
  generalize wordB hs 6 = r3 at *
  have Bel0 := Lib.hid (Below.refl w.heap.size w)
  have X0 := Lib.hid hx
  have k0_0 := X0.out.cell 0 rfl
  have k1_0 := X0.out.cell 1 rfl
  have k2_0 := X0.out.cell 2 rfl
  clear hx
  go_enter Try.func63, Try.ntmps63
  cases r1
  · have E2 := Lib.hid (show R = false by rw [E.out]; simp)
    go_wp2_with (first | (go_at_call 118; (with_reducible refine (H0.out _ ?_).mono ?_); (first | exact Bel0.out | exact below_drewN Bel0.out _); rintro e y1 ⟨rfl, hb⟩; have X1 : Hid (BxK y1 _ _ _) := Lib.hid ((hb.block _ X0.out.lt).trans X0.out); have Bel1 : Hid (Below w.heap.size w y1) := Lib.hid (by first | exact below_step Bel0.out hb (Nat.le_refl _) | exact below_step (below_drewN Bel0.out _) hb (Nat.le_refl _)); have k0_1 := X1.out.cell 0 rfl; have k1_1 := X1.out.cell 1 rfl; have k2_1 := X1.out.cell 2 rfl; clear hb))
    all_goals
      go_ret
      first | exact ⟨ret_bool E2.out.symm, below_drewN Bel1.out _⟩ | exact ⟨ret_bool E2.out.symm, Bel1.out⟩
  cases r2
  · have E2 := Lib.hid (show R = false by rw [E.out]; simp)
    go_wp2_with (first | (go_at_call 118; (with_reducible refine (H0.out _ ?_).mono ?_); (first | exact Bel0.out | exact below_drewN Bel0.out _); rintro e y1 ⟨rfl, hb⟩; have X1 : Hid (BxK y1 _ _ _) := Lib.hid ((hb.block _ X0.out.lt).trans X0.out); have Bel1 : Hid (Below w.heap.size w y1) := Lib.hid (by first | exact below_step Bel0.out hb (Nat.le_refl _) | exact below_step (below_drewN Bel0.out _) hb (Nat.le_refl _)); have k0_1 := X1.out.cell 0 rfl; have k1_1 := X1.out.cell 1 rfl; have k2_1 := X1.out.cell 2 rfl; clear hb) | (go_at_call 119; (with_reducible refine (H1.out _ ?_).mono ?_); (first | exact Bel1.out | exact below_drewN Bel1.out _); rintro e y2 ⟨rfl, hb⟩; have X2 : Hid (BxK y2 _ _ _) := Lib.hid ((hb.block _ X1.out.lt).trans X1.out); have Bel2 : Hid (Below w.heap.size w y2) := Lib.hid (by first | exact below_step Bel1.out hb (Nat.le_refl _) | exact below_step (below_drewN Bel1.out _) hb (Nat.le_refl _)); have k0_2 := X2.out.cell 0 rfl; have k1_2 := X2.out.cell 1 rfl; have k2_2 := X2.out.cell 2 rfl; clear hb))
    all_goals
      go_ret
      first | exact ⟨ret_bool E2.out.symm, below_drewN Bel2.out _⟩ | exact ⟨ret_bool E2.out.symm, Bel2.out⟩
  have E2 := Lib.hid (show R = r3 by rw [E.out]; simp)
  go_wp2_with (first | (go_at_call 118; (with_reducible refine (H0.out _ ?_).mono ?_); (first | exact Bel0.out | exact below_drewN Bel0.out _); rintro e y1 ⟨rfl, hb⟩; have X1 : Hid (BxK y1 _ _ _) := Lib.hid ((hb.block _ X0.out.lt).trans X0.out); have Bel1 : Hid (Below w.heap.size w y1) := Lib.hid (by first | exact below_step Bel0.out hb (Nat.le_refl _) | exact below_step (below_drewN Bel0.out _) hb (Nat.le_refl _)); have k0_1 := X1.out.cell 0 rfl; have k1_1 := X1.out.cell 1 rfl; have k2_1 := X1.out.cell 2 rfl; clear hb) | (go_at_call 119; (with_reducible refine (H1.out _ ?_).mono ?_); (first | exact Bel1.out | exact below_drewN Bel1.out _); rintro e y2 ⟨rfl, hb⟩; have X2 : Hid (BxK y2 _ _ _) := Lib.hid ((hb.block _ X1.out.lt).trans X1.out); have Bel2 : Hid (Below w.heap.size w y2) := Lib.hid (by first | exact below_step Bel1.out hb (Nat.le_refl _) | exact below_step (below_drewN Bel1.out _) hb (Nat.le_refl _)); have k0_2 := X2.out.cell 0 rfl; have k1_2 := X2.out.cell 1 rfl; have k2_2 := X2.out.cell 2 rfl; clear hb) | (go_at_call 102; (with_reducible refine (H2.out _ ?_).mono ?_); (first | exact Bel2.out | exact below_drewN Bel2.out _); rintro e y3 ⟨rfl, hb⟩; have X3 : Hid (BxK y3 _ _ _) := Lib.hid ((hb.block _ X2.out.lt).trans X2.out); have Bel3 : Hid (Below w.heap.size w y3) := Lib.hid (by first | exact below_step Bel2.out hb (Nat.le_refl _) | exact below_step (below_drewN Bel2.out _) hb (Nat.le_refl _)); have k0_3 := X3.out.cell 0 rfl; have k1_3 := X3.out.cell 1 rfl; have k2_3 := X3.out.cell 2 rfl; clear hb))
  all_goals
    go_ret
    first | exact ⟨ret_bool E2.out.symm, below_drewN Bel3.out _⟩ | exact ⟨ret_bool E2.out.symm, Bel3.out⟩
theorem spec_desk (fs gs hs : List Int) (v : Value) (w : World) (hn0 : fs.length ≤ 1048576) (hn1 : gs.length ≤ 1048576) (hn2 : hs.length ≤ 1048576) (h : Kv w v fs gs hs) :
    Calls Try.prog 16 #[v] w fun e w' => e = .returned (.bool (deskB fs gs hs)) ∧ Below w.heap.size w w' := by
  obtain ⟨a, b, c, rfl, h0, h1, h2⟩ := h
  have hb := (Below.refl _ w).alloc (Nat.le_refl _) (.cells #[a, b, c] 27)
  have H := Lib.hid (is_desk fs gs hs w.heap.size a b c _ hn0 hn1 hn2 (BxK.new w 27 #[a, b, c]) (h0.later hb) (h1.later hb) (h2.later hb))
  have Hb := Lib.hid hb
  clear hb h0 h1 h2
  go_enter Try.func16, Try.ntmps16
  go_wp2_with fail
  refine H.out.mono ?_
  rintro e y ⟨rfl, hb⟩
  have Hb2 := Lib.hid (below_step Hb.out hb (Nat.le_refl _))
  clear hb
  go_wp2
  go_ret
  exact ⟨rfl, Hb2.out⟩
def sameDeskB (fs gs hs fs2 gs2 hs2 : List Int) : Bool := (decide (fs = fs2) && decide (gs = gs2)) && decide (hs = hs2)
set_option maxRecDepth 100000 in
set_option maxHeartbeats 4000000 in
theorem impl_same (fs gs hs fs2 gs2 hs2 : List Int) (v u : Value) (w : World) (hn0 : fs.length ≤ 1048576) (hn1 : gs.length ≤ 1048576) (hn2 : hs.length ≤ 1048576) (hm0 : fs2.length ≤ 1048576) (hm1 : gs2.length ≤ 1048576) (hm2 : hs2.length ≤ 1048576) (h : Kv w v fs gs hs) (g : Kv w u fs2 gs2 hs2) :
    Calls Try.prog 21 #[v, u] w fun e w' => e = .returned (.bool (sameDeskB fs gs hs fs2 gs2 hs2)) ∧ Below w.heap.size w w' := by
  obtain ⟨a, b, c, rfl, h0, h1, h2⟩ := h
  obtain ⟨x, y, z, rfl, g0, g1, g2⟩ := g
  have H0 := Lib.hid (fun z2 (hb : Below w.heap.size w z2) => calls_drawn (eqS_any fs fs2 a x z2 hn0 hm0 (h0.later hb) (g0.later hb)))
  have H1 := Lib.hid (fun z2 (hb : Below w.heap.size w z2) => calls_drawn (eqS_any gs gs2 b y z2 hn1 hm1 (h1.later hb) (g1.later hb)))
  have H2 := Lib.hid (fun z2 (hb : Below w.heap.size w z2) => calls_drawn (eqS_any hs hs2 c z z2 hn2 hm2 (h2.later hb) (g2.later hb)))
  clear h0 h1 h2 g0 g1 g2
  have E := Lib.hid (show sameDeskB fs gs hs fs2 gs2 hs2 = ((decide (fs = fs2) && decide (gs = gs2)) && decide (hs = hs2)) from rfl)
  generalize sameDeskB fs gs hs fs2 gs2 hs2 = R at *
  generalize decide (fs = fs2) = r1 at *
  generalize decide (gs = gs2) = r2 at *
  generalize decide (hs = hs2) = r3 at *
  have Bel0 := Lib.hid (((Below.refl _ w).alloc (Nat.le_refl _) (.cells #[a, b, c] 27)).alloc (by simp) (.cells #[x, y, z] 27))
  have X0 := Lib.hid ((BxK.new w 27 #[a, b, c]).alloc (.cells #[x, y, z] 27))
  have Z0 := Lib.hid (BxK.new (w.alloc (.cells #[a, b, c] 27)) 27 #[x, y, z])
  simp only [World.size_alloc] at Z0
  go_enter Try.func21, Try.ntmps21
  go_wp2_with fail
  generalize hu : (w.alloc (.cells #[a, b, c] 27)).alloc (.cells #[x, y, z] 27) = u0 at *
  clear hu
  have k0_0 := X0.out.cell 0 rfl
  have l0_0 := Z0.out.cell 0 rfl
  have k1_0 := X0.out.cell 1 rfl
  have l1_0 := Z0.out.cell 1 rfl
  have k2_0 := X0.out.cell 2 rfl
  have l2_0 := Z0.out.cell 2 rfl
  cases r1
  · have E2 := Lib.hid (show R = false by rw [E.out]; simp)
    go_wp2_with (first | (go_at_call 68; (with_reducible refine (H0.out _ ?_).mono ?_); (first | exact Bel0.out | exact below_drewN Bel0.out _); rintro e y1 ⟨rfl, hb⟩; have X1 : Hid (BxK y1 _ _ _) := Lib.hid ((hb.block _ X0.out.lt).trans X0.out); have Z1 : Hid (BxK y1 _ _ _) := Lib.hid ((hb.block _ Z0.out.lt).trans Z0.out); have Bel1 : Hid (Below w.heap.size w y1) := Lib.hid (by first | exact below_step Bel0.out hb (Nat.le_refl _) | exact below_step (below_drewN Bel0.out _) hb (Nat.le_refl _)); have k0_1 := X1.out.cell 0 rfl; have l0_1 := Z1.out.cell 0 rfl; have k1_1 := X1.out.cell 1 rfl; have l1_1 := Z1.out.cell 1 rfl; have k2_1 := X1.out.cell 2 rfl; have l2_1 := Z1.out.cell 2 rfl; clear hb))
    all_goals
      go_ret
      first | exact ⟨ret_bool E2.out.symm, below_drewN Bel1.out _⟩ | exact ⟨ret_bool E2.out.symm, Bel1.out⟩
  cases r2
  · have E2 := Lib.hid (show R = false by rw [E.out]; simp)
    go_wp2_with (first | (go_at_call 68; (with_reducible refine (H0.out _ ?_).mono ?_); (first | exact Bel0.out | exact below_drewN Bel0.out _); rintro e y1 ⟨rfl, hb⟩; have X1 : Hid (BxK y1 _ _ _) := Lib.hid ((hb.block _ X0.out.lt).trans X0.out); have Z1 : Hid (BxK y1 _ _ _) := Lib.hid ((hb.block _ Z0.out.lt).trans Z0.out); have Bel1 : Hid (Below w.heap.size w y1) := Lib.hid (by first | exact below_step Bel0.out hb (Nat.le_refl _) | exact below_step (below_drewN Bel0.out _) hb (Nat.le_refl _)); have k0_1 := X1.out.cell 0 rfl; have l0_1 := Z1.out.cell 0 rfl; have k1_1 := X1.out.cell 1 rfl; have l1_1 := Z1.out.cell 1 rfl; have k2_1 := X1.out.cell 2 rfl; have l2_1 := Z1.out.cell 2 rfl; clear hb) | (go_at_call 68; (with_reducible refine (H1.out _ ?_).mono ?_); (first | exact Bel1.out | exact below_drewN Bel1.out _); rintro e y2 ⟨rfl, hb⟩; have X2 : Hid (BxK y2 _ _ _) := Lib.hid ((hb.block _ X1.out.lt).trans X1.out); have Z2 : Hid (BxK y2 _ _ _) := Lib.hid ((hb.block _ Z1.out.lt).trans Z1.out); have Bel2 : Hid (Below w.heap.size w y2) := Lib.hid (by first | exact below_step Bel1.out hb (Nat.le_refl _) | exact below_step (below_drewN Bel1.out _) hb (Nat.le_refl _)); have k0_2 := X2.out.cell 0 rfl; have l0_2 := Z2.out.cell 0 rfl; have k1_2 := X2.out.cell 1 rfl; have l1_2 := Z2.out.cell 1 rfl; have k2_2 := X2.out.cell 2 rfl; have l2_2 := Z2.out.cell 2 rfl; clear hb))
    all_goals
      go_ret
      first | exact ⟨ret_bool E2.out.symm, below_drewN Bel2.out _⟩ | exact ⟨ret_bool E2.out.symm, Bel2.out⟩
  have E2 := Lib.hid (show R = r3 by rw [E.out]; simp)
  go_wp2_with (first | (go_at_call 68; (with_reducible refine (H0.out _ ?_).mono ?_); (first | exact Bel0.out | exact below_drewN Bel0.out _); rintro e y1 ⟨rfl, hb⟩; have X1 : Hid (BxK y1 _ _ _) := Lib.hid ((hb.block _ X0.out.lt).trans X0.out); have Z1 : Hid (BxK y1 _ _ _) := Lib.hid ((hb.block _ Z0.out.lt).trans Z0.out); have Bel1 : Hid (Below w.heap.size w y1) := Lib.hid (by first | exact below_step Bel0.out hb (Nat.le_refl _) | exact below_step (below_drewN Bel0.out _) hb (Nat.le_refl _)); have k0_1 := X1.out.cell 0 rfl; have l0_1 := Z1.out.cell 0 rfl; have k1_1 := X1.out.cell 1 rfl; have l1_1 := Z1.out.cell 1 rfl; have k2_1 := X1.out.cell 2 rfl; have l2_1 := Z1.out.cell 2 rfl; clear hb) | (go_at_call 68; (with_reducible refine (H1.out _ ?_).mono ?_); (first | exact Bel1.out | exact below_drewN Bel1.out _); rintro e y2 ⟨rfl, hb⟩; have X2 : Hid (BxK y2 _ _ _) := Lib.hid ((hb.block _ X1.out.lt).trans X1.out); have Z2 : Hid (BxK y2 _ _ _) := Lib.hid ((hb.block _ Z1.out.lt).trans Z1.out); have Bel2 : Hid (Below w.heap.size w y2) := Lib.hid (by first | exact below_step Bel1.out hb (Nat.le_refl _) | exact below_step (below_drewN Bel1.out _) hb (Nat.le_refl _)); have k0_2 := X2.out.cell 0 rfl; have l0_2 := Z2.out.cell 0 rfl; have k1_2 := X2.out.cell 1 rfl; have l1_2 := Z2.out.cell 1 rfl; have k2_2 := X2.out.cell 2 rfl; have l2_2 := Z2.out.cell 2 rfl; clear hb) | (go_at_call 68; (with_reducible refine (H2.out _ ?_).mono ?_); (first | exact Bel2.out | exact below_drewN Bel2.out _); rintro e y3 ⟨rfl, hb⟩; have X3 : Hid (BxK y3 _ _ _) := Lib.hid ((hb.block _ X2.out.lt).trans X2.out); have Z3 : Hid (BxK y3 _ _ _) := Lib.hid ((hb.block _ Z2.out.lt).trans Z2.out); have Bel3 : Hid (Below w.heap.size w y3) := Lib.hid (by first | exact below_step Bel2.out hb (Nat.le_refl _) | exact below_step (below_drewN Bel2.out _) hb (Nat.le_refl _)); have k0_3 := X3.out.cell 0 rfl; have l0_3 := Z3.out.cell 0 rfl; have k1_3 := X3.out.cell 1 rfl; have l1_3 := Z3.out.cell 1 rfl; have k2_3 := X3.out.cell 2 rfl; have l2_3 := Z3.out.cell 2 rfl; clear hb))
  all_goals
    go_ret
    first | exact ⟨ret_bool E2.out.symm, below_drewN Bel3.out _⟩ | exact ⟨ret_bool E2.out.symm, Bel3.out⟩
set_option maxRecDepth 100000 in
set_option maxHeartbeats 4000000 in
theorem spec_same (fs gs hs fs2 gs2 hs2 : List Int) (v u : Value) (w : World) (hn0 : fs.length ≤ 1048576) (hn1 : gs.length ≤ 1048576) (hn2 : hs.length ≤ 1048576) (hm0 : fs2.length ≤ 1048576) (hm1 : gs2.length ≤ 1048576) (hm2 : hs2.length ≤ 1048576) (h : Kv w v fs gs hs) (g : Kv w u fs2 gs2 hs2) :
    Calls Try.prog 20 #[v, u] w fun e w' => e = .returned (.bool (sameDeskB fs gs hs fs2 gs2 hs2)) ∧ Below w.heap.size w w' := by
  obtain ⟨a, b, c, rfl, h0, h1, h2⟩ := h
  obtain ⟨x, y, z, rfl, g0, g1, g2⟩ := g
  have H0 := Lib.hid (fun z2 (hb : Below w.heap.size w z2) => calls_drawn (sameS_any fs fs2 a x z2 hn0 hm0 (h0.later hb) (g0.later hb)))
  have H1 := Lib.hid (fun z2 (hb : Below w.heap.size w z2) => calls_drawn (sameS_any gs gs2 b y z2 hn1 hm1 (h1.later hb) (g1.later hb)))
  have H2 := Lib.hid (fun z2 (hb : Below w.heap.size w z2) => calls_drawn (sameS_any hs hs2 c z z2 hn2 hm2 (h2.later hb) (g2.later hb)))
  clear h0 h1 h2 g0 g1 g2
  have E := Lib.hid (show sameDeskB fs gs hs fs2 gs2 hs2 = ((decide (fs = fs2) && decide (gs = gs2)) && decide (hs = hs2)) from rfl)
  generalize sameDeskB fs gs hs fs2 gs2 hs2 = R at *
  generalize decide (fs = fs2) = r1 at *
  generalize decide (gs = gs2) = r2 at *
  generalize decide (hs = hs2) = r3 at *
  have Bel0 := Lib.hid (((Below.refl _ w).alloc (Nat.le_refl _) (.cells #[a, b, c] 27)).alloc (by simp) (.cells #[x, y, z] 27))
  have X0 := Lib.hid ((BxK.new w 27 #[a, b, c]).alloc (.cells #[x, y, z] 27))
  have Z0 := Lib.hid (BxK.new (w.alloc (.cells #[a, b, c] 27)) 27 #[x, y, z])
  simp only [World.size_alloc] at Z0
  go_enter Try.func20, Try.ntmps20
  go_wp2_with fail
  generalize hu : (w.alloc (.cells #[a, b, c] 27)).alloc (.cells #[x, y, z] 27) = u0 at *
  clear hu
  have k0_0 := X0.out.cell 0 rfl
  have l0_0 := Z0.out.cell 0 rfl
  have k1_0 := X0.out.cell 1 rfl
  have l1_0 := Z0.out.cell 1 rfl
  have k2_0 := X0.out.cell 2 rfl
  have l2_0 := Z0.out.cell 2 rfl
  cases r1
  · have E2 := Lib.hid (show R = false by rw [E.out]; simp)
    go_wp2_with (first | (go_at_call 67; (with_reducible refine (H0.out _ ?_).mono ?_); (first | exact Bel0.out | exact below_drewN Bel0.out _); rintro e y1 ⟨rfl, hb⟩; have X1 : Hid (BxK y1 _ _ _) := Lib.hid ((hb.block _ X0.out.lt).trans X0.out); have Z1 : Hid (BxK y1 _ _ _) := Lib.hid ((hb.block _ Z0.out.lt).trans Z0.out); have Bel1 : Hid (Below w.heap.size w y1) := Lib.hid (by first | exact below_step Bel0.out hb (Nat.le_refl _) | exact below_step (below_drewN Bel0.out _) hb (Nat.le_refl _)); have k0_1 := X1.out.cell 0 rfl; have l0_1 := Z1.out.cell 0 rfl; have k1_1 := X1.out.cell 1 rfl; have l1_1 := Z1.out.cell 1 rfl; have k2_1 := X1.out.cell 2 rfl; have l2_1 := Z1.out.cell 2 rfl; clear hb))
    all_goals
      go_ret
      first | exact ⟨ret_bool E2.out.symm, below_drewN Bel1.out _⟩ | exact ⟨ret_bool E2.out.symm, Bel1.out⟩
  cases r2
  · have E2 := Lib.hid (show R = false by rw [E.out]; simp)
    go_wp2_with (first | (go_at_call 67; (with_reducible refine (H0.out _ ?_).mono ?_); (first | exact Bel0.out | exact below_drewN Bel0.out _); rintro e y1 ⟨rfl, hb⟩; have X1 : Hid (BxK y1 _ _ _) := Lib.hid ((hb.block _ X0.out.lt).trans X0.out); have Z1 : Hid (BxK y1 _ _ _) := Lib.hid ((hb.block _ Z0.out.lt).trans Z0.out); have Bel1 : Hid (Below w.heap.size w y1) := Lib.hid (by first | exact below_step Bel0.out hb (Nat.le_refl _) | exact below_step (below_drewN Bel0.out _) hb (Nat.le_refl _)); have k0_1 := X1.out.cell 0 rfl; have l0_1 := Z1.out.cell 0 rfl; have k1_1 := X1.out.cell 1 rfl; have l1_1 := Z1.out.cell 1 rfl; have k2_1 := X1.out.cell 2 rfl; have l2_1 := Z1.out.cell 2 rfl; clear hb) | (go_at_call 67; (with_reducible refine (H1.out _ ?_).mono ?_); (first | exact Bel1.out | exact below_drewN Bel1.out _); rintro e y2 ⟨rfl, hb⟩; have X2 : Hid (BxK y2 _ _ _) := Lib.hid ((hb.block _ X1.out.lt).trans X1.out); have Z2 : Hid (BxK y2 _ _ _) := Lib.hid ((hb.block _ Z1.out.lt).trans Z1.out); have Bel2 : Hid (Below w.heap.size w y2) := Lib.hid (by first | exact below_step Bel1.out hb (Nat.le_refl _) | exact below_step (below_drewN Bel1.out _) hb (Nat.le_refl _)); have k0_2 := X2.out.cell 0 rfl; have l0_2 := Z2.out.cell 0 rfl; have k1_2 := X2.out.cell 1 rfl; have l1_2 := Z2.out.cell 1 rfl; have k2_2 := X2.out.cell 2 rfl; have l2_2 := Z2.out.cell 2 rfl; clear hb))
    all_goals
      go_ret
      first | exact ⟨ret_bool E2.out.symm, below_drewN Bel2.out _⟩ | exact ⟨ret_bool E2.out.symm, Bel2.out⟩
  have E2 := Lib.hid (show R = r3 by rw [E.out]; simp)
  go_wp2_with (first | (go_at_call 67; (with_reducible refine (H0.out _ ?_).mono ?_); (first | exact Bel0.out | exact below_drewN Bel0.out _); rintro e y1 ⟨rfl, hb⟩; have X1 : Hid (BxK y1 _ _ _) := Lib.hid ((hb.block _ X0.out.lt).trans X0.out); have Z1 : Hid (BxK y1 _ _ _) := Lib.hid ((hb.block _ Z0.out.lt).trans Z0.out); have Bel1 : Hid (Below w.heap.size w y1) := Lib.hid (by first | exact below_step Bel0.out hb (Nat.le_refl _) | exact below_step (below_drewN Bel0.out _) hb (Nat.le_refl _)); have k0_1 := X1.out.cell 0 rfl; have l0_1 := Z1.out.cell 0 rfl; have k1_1 := X1.out.cell 1 rfl; have l1_1 := Z1.out.cell 1 rfl; have k2_1 := X1.out.cell 2 rfl; have l2_1 := Z1.out.cell 2 rfl; clear hb) | (go_at_call 67; (with_reducible refine (H1.out _ ?_).mono ?_); (first | exact Bel1.out | exact below_drewN Bel1.out _); rintro e y2 ⟨rfl, hb⟩; have X2 : Hid (BxK y2 _ _ _) := Lib.hid ((hb.block _ X1.out.lt).trans X1.out); have Z2 : Hid (BxK y2 _ _ _) := Lib.hid ((hb.block _ Z1.out.lt).trans Z1.out); have Bel2 : Hid (Below w.heap.size w y2) := Lib.hid (by first | exact below_step Bel1.out hb (Nat.le_refl _) | exact below_step (below_drewN Bel1.out _) hb (Nat.le_refl _)); have k0_2 := X2.out.cell 0 rfl; have l0_2 := Z2.out.cell 0 rfl; have k1_2 := X2.out.cell 1 rfl; have l1_2 := Z2.out.cell 1 rfl; have k2_2 := X2.out.cell 2 rfl; have l2_2 := Z2.out.cell 2 rfl; clear hb) | (go_at_call 67; (with_reducible refine (H2.out _ ?_).mono ?_); (first | exact Bel2.out | exact below_drewN Bel2.out _); rintro e y3 ⟨rfl, hb⟩; have X3 : Hid (BxK y3 _ _ _) := Lib.hid ((hb.block _ X2.out.lt).trans X2.out); have Z3 : Hid (BxK y3 _ _ _) := Lib.hid ((hb.block _ Z2.out.lt).trans Z2.out); have Bel3 : Hid (Below w.heap.size w y3) := Lib.hid (by first | exact below_step Bel2.out hb (Nat.le_refl _) | exact below_step (below_drewN Bel2.out _) hb (Nat.le_refl _)); have k0_3 := X3.out.cell 0 rfl; have l0_3 := Z3.out.cell 0 rfl; have k1_3 := X3.out.cell 1 rfl; have l1_3 := Z3.out.cell 1 rfl; have k2_3 := X3.out.cell 2 rfl; have l2_3 := Z3.out.cell 2 rfl; clear hb))
  all_goals
    go_ret
    first | exact ⟨ret_bool E2.out.symm, below_drewN Bel3.out _⟩ | exact ⟨ret_bool E2.out.symm, Bel3.out⟩
end Go.Proofs.Ytcoehcoohppbjaa
