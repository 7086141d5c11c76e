/- Contracts: rows of purses, in both texts. -/
import Derived.Test.YticocfoheenmdaaVe
import Derived.Test.YticocfoheenmdaaVd
import Derived.Test.YticocfoheenmdaaQe
import Derived.Deep.RegionLaw
import Derived.Deep.RegionLawGrows
set_option linter.unusedVariables false
namespace Go.Proofs.Yticocfoheenmdaa
open Go.RowKit Go.Maps

def okPR (a b c d e : Int) : Prop := ((1 ≤ b ∧ b ≤ 10) ∧ (0 ≤ a ∧ a ≤ b)) ∧ ((2 ≤ d ∧ d ≤ 10) ∧ (1 ≤ c ∧ c ≤ d - 1)) ∧ (0 ≤ e ∧ e ≤ 12)
instance (a b c d e : Int) : Decidable (okPR a b c d e) := by unfold okPR; infer_instance
def ok_PurseRow (a b c d e : Int) : Bool := decide (okPR a b c d e)
def res_PurseRow (a b c d e : Int) : List Int := if okPR a b c d e then tab (b.toNat + 1) (fun k => puF a b c d e.toNat (k : Int)) else []
def res2_PurseRow (a b c d e : Int) : Int := if okPR a b c d e then pwI d e.toNat else 0
theorem len_PurseRow (a b c d e : Int) : (res_PurseRow a b c d e).length ≤ 1048576 := by
  unfold res_PurseRow
  split
  · rw [tab_len]; have h := ‹okPR a b c d e›.1; omega
  · exact Nat.zero_le _
theorem pwI_10 : ∀ t, t < 13 → pwI 10 t ≤ 1000000000000 := by decide +kernel
theorem pw_small (q : Int) (h0 : 2 ≤ q) (h : q ≤ 10) (t : Nat) (ht : t < 13) : 1 ≤ pwI q t ∧ pwI q t ≤ 1000000000000 := by
  have h1 := pwI_pos q (by omega) t
  have h2 := (pwI_mono2 q 10 (by omega) h t).2
  have h3 := pwI_10 t ht
  omega
set_option maxRecDepth 100000 in
set_option maxHeartbeats 4000000 in
theorem purse_impl_yes (u a : Nat) (p q : Int) (S : Nat) (w : World) (a1 : 1 ≤ a) (a2 : a ≤ 10) (hu : u ≤ a) (q1 : 2 ≤ q) (q2 : q ≤ 10) (p1 : 1 ≤ p) (p2 : p ≤ q - 1) (s2 : S ≤ 12) :
    Calls Try.prog 13 #[.int .i64 (u : Int), .int .i64 (a : Int), .int .i64 p, .int .i64 q, .int .i64 (S : Int)] w fun e w' => ∃ r, e = .returned (.tuple #[r, .int .i64 (pwI q S), .bool true]) ∧ Sw (Value.int .i64) 0 w' r (tab (a + 1) (fun k => puF u a p q S (k : Int))) w.heap.size w'.heap.size ∧ Below w.heap.size w w' := by
  have H0 := Lib.hid (fun z => purse_yes (u : Int) (a : Int) 10 z (by unfold purse_P; omega))
  have H1 := Lib.hid (fun z => parts_yes p q z (by unfold parts_P; omega))
  have H2 := Lib.hid (fun z => within_yes (S : Int) 0 12 z (by omega) (by omega))
  obtain ⟨W0, hW0⟩ : ∃ W0, W0 = ((w.alloc (.cells #[.int .i64 (a : Int)] 2)).alloc (.cells #[.int .i64 p] 2)).alloc (.cells #[.int .i64 q] 2) := ⟨_, rfl⟩
  have hz : W0.heap.size = w.heap.size + 3 := by rw [hW0]; simp
  have g1 : W0.cell? ⟨w.heap.size, 0, none⟩ = some (.int .i64 (a : Int)) := by
    rw [hW0]
    exact (World.cell?_alloc_past _ _ _ (by simp; omega)).trans ((World.cell?_alloc_past _ _ _ (by simp)).trans (World.cell?_alloc_at _ _ _ _ rfl))
  have g2 : W0.cell? ⟨w.heap.size + 1, 0, none⟩ = some (.int .i64 p) := by
    rw [hW0]
    exact (World.cell?_alloc_past _ _ _ (by simp)).trans (World.cell?_alloc_at _ _ _ _ (by simp))
  have g3 : W0.cell? ⟨w.heap.size + 2, 0, none⟩ = some (.int .i64 q) := by
    rw [hW0]
    exact World.cell?_alloc_at _ _ _ _ (by simp)
  have hb0 : Below w.heap.size w W0 := by
    rw [hW0]
    exact (((Below.refl _ w).alloc (Nat.le_refl _) _).alloc (by simp) _).alloc (by simp; omega) _
  obtain ⟨W1, r1, ht1, k1⟩ := lit1 W0 (a + 1) (u : Int) 1 (WalkArith.wf_i64 (by omega)) (WalkArith.wf_i64 (by omega)) (by omega)
  have hb1 : Below W0.heap.size W0 W1 := ((Below.refl _ W0).alloc (Nat.le_refl _) (.map #[] 0)).grown k1 (by simp) (fun j hj => by cases hj; exact Nat.le_refl _)
  have Hb1 := Lib.hid hb1
  have Ht1 := Lib.hid ht1
  have Hb0 := Lib.hid hb0
  have Hg1 := Lib.hid g1
  have Hg2 := Lib.hid g2
  have Hg3 := Lib.hid g3
  have hz1 := hb1.size
  rw [hz] at r1
  have HN : Hid (((a + 1 : Nat) : Int) = (a : Int) + 1) := Lib.hid rfl
  have HO : Hid (∀ (t b : Nat) (z : World), t < 12 → TV z b (a + 1) (a + 1) (puF u a p q t) → z.cell? ⟨w.heap.size, 0, none⟩ = some (.int .i64 (a : Int)) → z.cell? ⟨w.heap.size + 1, 0, none⟩ = some (.int .i64 p) → z.cell? ⟨w.heap.size + 2, 0, none⟩ = some (.int .i64 q) → Calls Try.prog 32 #[.map (some b), .func (.func 33) #[] #[.pointer (some ⟨w.heap.size, 0, none⟩), .pointer (some ⟨w.heap.size + 2, 0, none⟩), .pointer (some ⟨w.heap.size + 1, 0, none⟩)]] z fun e z' => ∃ bn, e = .returned (.map (some bn)) ∧ TV z' bn (a + 1) (a + 1) (puF u a p q (t + 1)) ∧ z.heap.size ≤ bn ∧ Below z.heap.size z z') := Lib.hid (fun t b z ht htv c1 c2 c3 => by
    have hc' := onward_any 33 #[] #[.pointer (some ⟨w.heap.size, 0, none⟩), .pointer (some ⟨w.heap.size + 2, 0, none⟩), .pointer (some ⟨w.heap.size + 1, 0, none⟩)] b (a + 1) (a + 1) (a + 1) (puF u a p q t) (fun s => puM a p q s) z htv (by omega) (by omega)
      (fun s hs k => pu_term u a p q p1 (by omega) t s k) (fun k => by rw [pu_step u a p q t (a + 1) HN.out (by omega)]; have := pu_big u a p q p1 (by omega) q2 (t + 1) (by omega) k; omega)
      (run_enter Try.func33 (by kernel_rfl) (by kernel_rfl))
      (fun s z' hs hb => (clo_purse a p q w.heap.size (w.heap.size + 2) (w.heap.size + 1) s (a + 1) z' HN.out (by omega) (by omega) hs p1 (by omega) q2 (cell_keep hb c1) (cell_keep hb c3) (cell_keep hb c2)).mono fun e z'' ⟨bm, h1, h2, h3, h4⟩ => ⟨bm, h1, h2, .inl h3, h4⟩)
    exact hc'.mono fun e z' ⟨bn, h1, h2, h3, h4⟩ => ⟨bn, h1, h2.congr (fun k => pu_step u a p q t (a + 1) HN.out (by omega) k), h3, h4⟩)
  have HU := Lib.hid (fun b n N z (h : TV z b n N (puF u a p q S)) => upTo_any b n N a (puF u a p q S) z h (by omega))
  have HP := Lib.hid (fun z => powerQ_any q S z (by omega) (fun k hk => by have := pw_small q q1 q2 k (by omega); omega))
  have Hz : Hid (∀ k, upd (fun _ => 0) (u : Int) 1 k = puF u a p q 0 k) := Lib.hid (fun k => by unfold upd puF; rfl)
  have HW := Lib.hid hW0
  have hmm := @run_makeMap Try.prog
  clear ht1 k1 hb0 hb1 g1 g2 g3
  rw [hW0] at r1
  clear hW0
  go_enter Try.func13, Try.ntmps13
  go_wp2_with fail
  refine (H0.out _).mono ?_
  rintro e w' ⟨rfl, rfl⟩
  go_wp2_with fail
  refine (H1.out _).mono ?_
  rintro e w' ⟨rfl, rfl⟩
  go_wp2_with fail
  refine (H2.out _).mono ?_
  rintro e w' ⟨rfl, rfl⟩
  go_wp2
  go_loopw [13, 33] (fun x i wr => ∃ t b : Nat, t ≤ S ∧ i = .int .i64 (t : Int) ∧ x = .map (some b) ∧ Hid (TV wr b (a + 1) (a + 1) (puF u a p q t)) ∧ Hid (Below w.heap.size w wr) ∧ w.heap.size + 3 ≤ wr.heap.size ∧ wr.cell? ⟨w.heap.size, 0, none⟩ = some (.int .i64 (a : Int)) ∧ wr.cell? ⟨w.heap.size + 1, 0, none⟩ = some (.int .i64 p) ∧ wr.cell? ⟨w.heap.size + 2, 0, none⟩ = some (.int .i64 q)) (fun _ i _ => S - (intOf i).toNat)
  case atStart => exact ⟨0, w.heap.size + 3, Nat.zero_le _, rfl, rfl, Lib.hid ((by have := Ht1.out.congr Hz.out; rw [hz] at this; exact this.mono (by omega) (Nat.le_refl _))), Lib.hid (Hb0.out.trans (Hb1.out.mono (by omega))), by omega, (Hb1.out.cell (by show w.heap.size < _; omega)).trans Hg1.out, (Hb1.out.cell (by show w.heap.size + 1 < _; omega)).trans Hg2.out, (Hb1.out.cell (by show w.heap.size + 2 < _; omega)).trans Hg3.out⟩
  case round =>
    obtain ⟨t, b, ht, rfl, rfl, htv, hb, hsz3, c1, c2, c3⟩ := hrel
    have hsz := hb.out.size
    by_cases hlt : t < S
    · have HOt := Lib.hid (HO.out t b wr (by omega) htv.out c1 c2 c3)
      go_wp2_with (go_at_call 32; refine HOt.out.mono ?_; rintro e w2 ⟨bn, rfl, ht2, hbn, hb2⟩; have Ht2 := Lib.hid ht2; have Hb2 := Lib.hid hb2; have hs2 := hb2.size; clear ht2 hb2)
      go_roundw
      case rel => exact ⟨t + 1, bn, by omega, by go_num, rfl, Ht2, Lib.hid (hb.out.trans (Hb2.out.mono hsz)), by omega, cell_keep Hb2.out c1, cell_keep Hb2.out c2, cell_keep Hb2.out c3⟩
      case measure => simp [intOf]; omega
    · obtain rfl : t = S := by omega
      have HUd := Lib.hid (HU.out b _ _ wr.drew htv.out)
      go_wp2
      go_region_law (first | (go_simp; go_at_call 34; refine (HUd.out).mono ?_; rintro e w2 ⟨r, rfl, hs, hb2⟩; have c1' := cell_keep hb2 c1; have c3' := cell_keep hb2 c3; have Hs := Lib.hid hs; have Hb2 : Hid (Below w.heap.size w w2) := Lib.hid ((below_drewN hb.out 1).trans (hb2.mono hsz)); have hz2 := hb2.size; clear hs hb2) | (go_simp; go_at_call 29; refine (HP.out _).mono ?_; rintro e w3 ⟨rfl, hb3⟩; have Hs3 := Lib.hid (Hs.out.later hb3); have Hb3 : Hid (Below w.heap.size w w3) := Lib.hid (Hb2.out.trans (hb3.mono Hb2.out.size)); have hz3 := hb3.size; clear hb3))
      all_goals
        go_wp2
        go_ret3
        exact ⟨_, rfl, Hs3.out.mono (by exact hsz) hz3 (Nat.le_refl _), Hb3.out⟩
end Go.Proofs.Yticocfoheenmdaa
