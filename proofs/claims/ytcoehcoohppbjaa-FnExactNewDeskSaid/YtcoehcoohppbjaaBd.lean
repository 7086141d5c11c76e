/- Contracts: new desks, in both texts. -/
import Derived.Test.YtcoehcoohppbjaaBa
import Derived.Test.YtcoehcoohppbjaaDc
set_option linter.unusedVariables false
namespace Go.Proofs.Ytcoehcoohppbjaa
open Go.RowKit
/-- a slice literal of integers -/
theorem sw_lit (w : World) (zs : List Int) (cs : Array Value) (hcs : cs = (zs.map (Value.int .i64)).toArray) (t : TypeId) (lo n : Nat) (hn : n = zs.length) (hlo : lo ≤ w.heap.size) : Sw (Value.int .i64) 0 (w.alloc (.cells cs t)) (.slice (some ⟨w.heap.size, 0, none⟩) n n) zs lo (w.heap.size + 1) := by
  subst hn
  refine ⟨_, _, rfl, fun _ => ⟨Nat.le_refl _, w.heap.size, 0, rfl, hlo, Nat.lt_succ_self _, by simp, fun i hi => ⟨?_, ?_⟩⟩⟩
  · rw [Nat.zero_add]
    have e : cs[i]? = some (Value.int .i64 (zs.getD i 0)) := by rw [hcs, getD_lt zs 0 i hi]; simp [hi]
    exact (BxK.new w t cs).cell i e
  · rw [frozen?_alloc_cells]
    simp [World.frozen?]
def deck8 : List Int := tab 8 (fun k => (k : Int))
def counts9 : List Int := [3, 1, 1, 1, 2, 0, 0, 0, 0]
def word2 : List Int := [1, 1]
theorem new_end (w w1 : World) (r : Value) (R : List Int) (bel1 : Below w.heap.size w w1) (hz1 : w.heap.size + 1 ≤ w1.heap.size) (T0 : Sw (Value.int .i64) 0 w1 r R (w.heap.size + 1) w1.heap.size) (X1 : BxK ((w1.alloc (.cells #[Value.int .i64 3, Value.int .i64 1, Value.int .i64 1, Value.int .i64 1, Value.int .i64 2, Value.int .i64 0, Value.int .i64 0, Value.int .i64 0, Value.int .i64 0] 2)).alloc (.cells #[Value.int .i64 1, Value.int .i64 1] 2)) w.heap.size 27 #[Value.slice none 0 0, Value.slice none 0 0, Value.slice none 0 0]) (F : World) (hF : ((((w1.alloc (.cells #[Value.int .i64 3, Value.int .i64 1, Value.int .i64 1, Value.int .i64 1, Value.int .i64 2, Value.int .i64 0, Value.int .i64 0, Value.int .i64 0, Value.int .i64 0] 2)).alloc (.cells #[Value.int .i64 1, Value.int .i64 1] 2)).setCell ⟨w.heap.size, 0, none⟩ r).setCell ⟨w.heap.size, 1, none⟩ (.slice (some ⟨w1.heap.size, 0, none⟩) 9 9)).setCell ⟨w.heap.size, 2, none⟩ (.slice (some ⟨w1.heap.size + 1, 0, none⟩) 2 2) = F) :
    (F.cell? ⟨w.heap.size, 0, none⟩ = some r ∧ F.cell? ⟨w.heap.size, 1, none⟩ = some (.slice (some ⟨w1.heap.size, 0, none⟩) 9 9) ∧ F.cell? ⟨w.heap.size, 2, none⟩ = some (.slice (some ⟨w1.heap.size + 1, 0, none⟩) 2 2)) ∧ Kw F (.agg #[r, .slice (some ⟨w1.heap.size, 0, none⟩) 9 9, .slice (some ⟨w1.heap.size + 1, 0, none⟩) 2 2]) R counts9 word2 w.heap.size F.heap.size ∧ Below w.heap.size w F := by
  have XF := ((X1.set0 r).set1 (.slice (some ⟨w1.heap.size, 0, none⟩) 9 9)).set2 (.slice (some ⟨w1.heap.size + 1, 0, none⟩) 2 2)
  have OF := (((Only.refl 0 (w.heap.size + 1) ((w1.alloc (.cells #[Value.int .i64 3, Value.int .i64 1, Value.int .i64 1, Value.int .i64 1, Value.int .i64 2, Value.int .i64 0, Value.int .i64 0, Value.int .i64 0, Value.int .i64 0] 2)).alloc (.cells #[Value.int .i64 1, Value.int .i64 1] 2))).step' ⟨w.heap.size, 0, none⟩ r (Nat.zero_le _) (Nat.lt_succ_self _)).step' ⟨w.heap.size, 1, none⟩ (.slice (some ⟨w1.heap.size, 0, none⟩) 9 9) (Nat.zero_le _) (Nat.lt_succ_self _)).step' ⟨w.heap.size, 2, none⟩ (.slice (some ⟨w1.heap.size + 1, 0, none⟩) 2 2) (Nat.zero_le _) (Nat.lt_succ_self _)
  have BF := ((((bel1.alloc (by omega) (.cells #[Value.int .i64 3, Value.int .i64 1, Value.int .i64 1, Value.int .i64 1, Value.int .i64 2, Value.int .i64 0, Value.int .i64 0, Value.int .i64 0, Value.int .i64 0] 2)).alloc (by simp; omega) (.cells #[Value.int .i64 1, Value.int .i64 1] 2)).setCell (p := ⟨w.heap.size, 0, none⟩) (Nat.le_refl _) r).setCell (p := ⟨w.heap.size, 1, none⟩) (Nat.le_refl _) (.slice (some ⟨w1.heap.size, 0, none⟩) 9 9)).setCell (p := ⟨w.heap.size, 2, none⟩) (Nat.le_refl _) (.slice (some ⟨w1.heap.size + 1, 0, none⟩) 2 2)
  rw [hF] at XF OF BF
  have hz := OF.size
  simp only [World.size_alloc] at hz
  have b1 := (Below.refl w1.heap.size w1).alloc (Nat.le_refl _) (.cells #[Value.int .i64 3, Value.int .i64 1, Value.int .i64 1, Value.int .i64 1, Value.int .i64 2, Value.int .i64 0, Value.int .i64 0, Value.int .i64 0, Value.int .i64 0] 2)
  have b2 := (Below.refl (w1.alloc (.cells #[Value.int .i64 3, Value.int .i64 1, Value.int .i64 1, Value.int .i64 1, Value.int .i64 2, Value.int .i64 0, Value.int .i64 0, Value.int .i64 0, Value.int .i64 0] 2)).heap.size (w1.alloc (.cells #[Value.int .i64 3, Value.int .i64 1, Value.int .i64 1, Value.int .i64 1, Value.int .i64 2, Value.int .i64 0, Value.int .i64 0, Value.int .i64 0, Value.int .i64 0] 2))).alloc (Nat.le_refl _) (.cells #[Value.int .i64 1, Value.int .i64 1] 2)
  have S1 := (T0.later b1).later b2
  have S2 := (sw_lit w1 counts9 #[Value.int .i64 3, Value.int .i64 1, Value.int .i64 1, Value.int .i64 1, Value.int .i64 2, Value.int .i64 0, Value.int .i64 0, Value.int .i64 0, Value.int .i64 0] rfl 2 w1.heap.size 9 rfl (Nat.le_refl _)).later b2
  have S3 := sw_lit (w1.alloc (.cells #[Value.int .i64 3, Value.int .i64 1, Value.int .i64 1, Value.int .i64 1, Value.int .i64 2, Value.int .i64 0, Value.int .i64 0, Value.int .i64 0, Value.int .i64 0] 2)) word2 #[Value.int .i64 1, Value.int .i64 1] rfl 2 (w1.heap.size + 1) 2 rfl (by simp)
  simp only [World.size_alloc] at S3
  exact ⟨⟨XF.cell 0 rfl, XF.cell 1 rfl, XF.cell 2 rfl⟩, ⟨_, _, _, w1.heap.size, w1.heap.size + 1, rfl, by omega, by omega, by omega, Nat.le_refl _, (S1.apart OF (.inr (Nat.le_refl _))).mono (by omega) (Nat.le_refl _) (by omega), S2.apart OF (.inr (by omega)), (S3.apart OF (.inr (by omega))).mono (Nat.le_refl _) (by omega) (Nat.le_refl _)⟩, BF⟩
set_option maxRecDepth 100000 in
set_option maxHeartbeats 2000000 in
theorem impl_new (w : World) : Calls Try.prog 23 #[] w fun e w' => ∃ v, e = .returned v ∧ Kw w' v deck8 counts9 word2 w.heap.size w'.heap.size ∧ Below w.heap.size w w' := by
  have x0 := Lib.hid (BxK.new w 27 #[Value.slice none 0 0, Value.slice none 0 0, Value.slice none 0 0])
  have bel0 := Lib.hid ((Below.refl _ w).alloc (Nat.le_refl _) (.cells #[Value.slice none 0 0, Value.slice none 0 0, Value.slice none 0 0] 27))
  have H := Lib.hid (fun z => impl_NewDeck 8 (by omega) (by omega) z)
  go_enter Try.func23, Try.ntmps23
  go_wp2_with (go_at_call 70; (refine (H.out _).mono ?_); rintro e w1 ⟨r, rfl, hs, hb⟩; have T0 := Lib.hid hs; have hz1 := hb.size; rw [World.size_alloc] at hz1; have X := ((x0.out.below hb (by simp)).alloc (.cells #[Value.int .i64 3, Value.int .i64 1, Value.int .i64 1, Value.int .i64 1, Value.int .i64 2, Value.int .i64 0, Value.int .i64 0, Value.int .i64 0, Value.int .i64 0] 2)).alloc (.cells #[Value.int .i64 1, Value.int .i64 1] 2); have j0 := X.cell 0 rfl; have j1 := X.cell 1 rfl; have j2 := X.cell 2 rfl; have f0 := X.frozen 0; have f1 := X.frozen 1; have f2 := X.frozen 2; have X1 := Lib.hid X; have bel1 := Lib.hid (below_step bel0.out hb (Nat.le_refl _)); obtain ⟨p0, cap0, rfl, -⟩ := hs; clear hb X x0 bel0 H)
  simp only [World.size_alloc] at T0
  obtain ⟨⟨q0, q1, q2⟩, K, B⟩ := new_end w w1 _ _ bel1.out hz1 T0.out X1.out _ rfl
  have K := Lib.hid K
  have B := Lib.hid B
  clear j0 j1 j2 f0 f1 f2 X1 T0 bel1
  generalize hFF : ((((w1.alloc (.cells #[Value.int .i64 3, Value.int .i64 1, Value.int .i64 1, Value.int .i64 1, Value.int .i64 2, Value.int .i64 0, Value.int .i64 0, Value.int .i64 0, Value.int .i64 0] 2)).alloc (.cells #[Value.int .i64 1, Value.int .i64 1] 2)).setCell ⟨w.heap.size, 0, none⟩ _).setCell ⟨w.heap.size, 1, none⟩ (.slice (some ⟨w1.heap.size, 0, none⟩) 9 9)).setCell ⟨w.heap.size, 2, none⟩ (.slice (some ⟨w1.heap.size + 1, 0, none⟩) 2 2) = FF at *
  clear hFF
  refine bodyPost_ret (v := .agg #[_, .slice (some ⟨w1.heap.size, 0, none⟩) 9 9, .slice (some ⟨w1.heap.size + 1, 0, none⟩) 2 2]) ?_ rfl ⟨_, rfl, K.out, B.out⟩
  simp [results, Try.results23, go_sem, q0, q1, q2]
set_option maxRecDepth 100000 in
set_option maxHeartbeats 2000000 in
theorem spec_new (w : World) : Calls Try.prog 22 #[] w fun e w' => ∃ v, e = .returned v ∧ Kw w' v deck8 counts9 word2 w.heap.size w'.heap.size ∧ Below w.heap.size w w' := by
  have x0 := Lib.hid (BxK.new w 27 #[Value.slice none 0 0, Value.slice none 0 0, Value.slice none 0 0])
  have bel0 := Lib.hid ((Below.refl _ w).alloc (Nat.le_refl _) (.cells #[Value.slice none 0 0, Value.slice none 0 0, Value.slice none 0 0] 27))
  have H := Lib.hid (fun z => (l02New_any 8 z (by omega)).mono fun e w' ⟨r, h1, h2, h3⟩ => (⟨r, h1, Sw.of_owns h2 (tab_len _ _), h3⟩ : ∃ r, e = Ending.returned r ∧ Sw (Value.int .i64) 0 w' r (tab 8 (fun k => (k : Int))) z.heap.size w'.heap.size ∧ Below z.heap.size z w'))
  go_enter Try.func22, Try.ntmps22
  go_wp2_with (go_at_call 69; (refine (H.out _).mono ?_); rintro e w1 ⟨r, rfl, hs, hb⟩; have T0 := Lib.hid hs; have hz1 := hb.size; rw [World.size_alloc] at hz1; have X := ((x0.out.below hb (by simp)).alloc (.cells #[Value.int .i64 3, Value.int .i64 1, Value.int .i64 1, Value.int .i64 1, Value.int .i64 2, Value.int .i64 0, Value.int .i64 0, Value.int .i64 0, Value.int .i64 0] 2)).alloc (.cells #[Value.int .i64 1, Value.int .i64 1] 2); have j0 := X.cell 0 rfl; have j1 := X.cell 1 rfl; have j2 := X.cell 2 rfl; have f0 := X.frozen 0; have f1 := X.frozen 1; have f2 := X.frozen 2; have X1 := Lib.hid X; have bel1 := Lib.hid (below_step bel0.out hb (Nat.le_refl _)); obtain ⟨p0, cap0, rfl, -⟩ := hs; clear hb X x0 bel0 H)
  simp only [World.size_alloc] at T0
  obtain ⟨⟨q0, q1, q2⟩, K, B⟩ := new_end w w1 _ _ bel1.out hz1 T0.out X1.out _ rfl
  have K := Lib.hid K
  have B := Lib.hid B
  clear j0 j1 j2 f0 f1 f2 X1 T0 bel1
  generalize hFF : ((((w1.alloc (.cells #[Value.int .i64 3, Value.int .i64 1, Value.int .i64 1, Value.int .i64 1, Value.int .i64 2, Value.int .i64 0, Value.int .i64 0, Value.int .i64 0, Value.int .i64 0] 2)).alloc (.cells #[Value.int .i64 1, Value.int .i64 1] 2)).setCell ⟨w.heap.size, 0, none⟩ _).setCell ⟨w.heap.size, 1, none⟩ (.slice (some ⟨w1.heap.size, 0, none⟩) 9 9)).setCell ⟨w.heap.size, 2, none⟩ (.slice (some ⟨w1.heap.size + 1, 0, none⟩) 2 2) = FF at *
  clear hFF
  refine bodyPost_ret (v := .agg #[_, .slice (some ⟨w1.heap.size, 0, none⟩) 9 9, .slice (some ⟨w1.heap.size + 1, 0, none⟩) 2 2]) ?_ rfl ⟨_, rfl, K.out, B.out⟩
  simp [results, Try.results22, go_sem, q0, q1, q2]
end Go.Proofs.Ytcoehcoohppbjaa
