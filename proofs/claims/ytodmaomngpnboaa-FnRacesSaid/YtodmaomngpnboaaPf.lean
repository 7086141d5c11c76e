/- Contracts: throws that a race needs, the model. -/
import Derived.Test.YtodmaomngpnboaaPe
import Derived.Test.YtodmaomngpnboaaMk
import Derived.BigQuiet
set_option linter.unusedVariables false
namespace Go.Proofs.Ytodmaomngpnboaa
open Go.RowKit Go.Maps

def innOk (F l : Nat) : Bool := (List.range 7).all fun t => decide (0 ≤ innF F (toldL F l) (l + 1) t) && decide (innF F (toldL F l) (l + 1) t ≤ 4611686018427387904) && decide (0 ≤ (toldL F l).getD (l + 1 - (t + 1)) 0 * pwI (F : Int) t) && decide ((toldL F l).getD (l + 1 - (t + 1)) 0 * pwI (F : Int) t ≤ 4611686018427387904) && decide (0 ≤ (toldL F l).getD (l + 1 - (t + 1)) 0) && decide ((toldL F l).getD (l + 1 - (t + 1)) 0 ≤ 4611686018427387904)
theorem inn_all : ∀ f, f < 5 → ∀ l, l < 12 → innOk (f + 2) l = true := by decide +kernel
theorem inn_bd (F l t : Nat) (h2 : 2 ≤ F) (h6 : F ≤ 6) (hl : l < 12) (ht : t < 7) : (0 ≤ innF F (toldL F l) (l + 1) t ∧ innF F (toldL F l) (l + 1) t ≤ 4611686018427387904) ∧ (0 ≤ (toldL F l).getD (l + 1 - (t + 1)) 0 * pwI (F : Int) t ∧ (toldL F l).getD (l + 1 - (t + 1)) 0 * pwI (F : Int) t ≤ 4611686018427387904) ∧ 0 ≤ (toldL F l).getD (l + 1 - (t + 1)) 0 ∧ (toldL F l).getD (l + 1 - (t + 1)) 0 ≤ 4611686018427387904 := by
  obtain ⟨f, rfl⟩ : ∃ f, F = f + 2 := ⟨F - 2, by omega⟩
  have h := inn_all f (by omega) l hl
  unfold innOk at h
  rw [List.all_eq_true] at h
  have g := h t (List.mem_range.2 ht)
  simp only [Bool.and_eq_true, decide_eq_true_eq] at g
  obtain ⟨⟨⟨⟨⟨g1, g2⟩, g3⟩, g4⟩, g5⟩, g6⟩ := g
  exact ⟨⟨g1, g2⟩, ⟨g3, g4⟩, g5, g6⟩
theorem told_snoc {w : World} {base : Nat} {e : TypeId} {v : Value} {F l : Nat} (h : w.ownsRow base e 1 v (l + 1 + 1) ((toldL F l).map (Value.int .i64) ++ [.int .i64 (innF F (toldL F l) (l + 1) (min F l))])) : w.ownsRow base e 1 v (l + 1 + 1) ((toldL F (l + 1)).map (Value.int .i64)) := by
  rw [toldL, List.map_append]; exact h
theorem own_one0 (w : World) (e : TypeId) : (w.alloc (.cells #[.int .i64 0] e)).ownsRow w.heap.size e 1 (.slice (some ⟨w.heap.size, 0, none⟩) 1 1) 1 [.int .i64 0] :=
  ⟨by simp, .inr ⟨w.heap.size, 1, #[.int .i64 0], rfl, Nat.le_refl _, World.alloc_heap_new w _, Nat.le_refl _, by unfold maxLen; omega, rfl, by simp⟩⟩
set_option maxRecDepth 100000 in
set_option maxHeartbeats 1000000 in
theorem rolls_spec (F L : Nat) (w : World) (h2 : 2 ≤ F) (h6 : F ≤ 6) (hL : L ≤ 12) :
    Calls Try.prog 29 #[.int .i64 (L : Int), .int .i64 (F : Int)] w fun e w' => e = .returned (.tuple #[.int .i64 ((toldL F L).getD L 0 / gcdI ((toldL F L).getD L 0) (pwI (F : Int) L)), .int .i64 (pwI (F : Int) L / gcdI ((toldL F L).getD L 0) (pwI (F : Int) L)), .bool true]) ∧ Below w.heap.size w w' := by
  obtain ⟨i0, hi, hz0, hz1, hz2⟩ := info_parts (show (Try.prog.info? 2).map (fun i => (i.zero, i.size, i.bytes)) = some (some (.int .i64 0), 1, 8) by kernel_rfl)
  have HI := Lib.hid (fun z => in_yes (L : Int) 0 12 z (by omega) (by omega))
  have HR := Lib.hid (fun z => in_yes (F : Int) 2 6 z (by omega) (by omega))
  have HB := Lib.hid (fun l t hl ht => inn_bd F l t h2 h6 hl ht)
  have HP := Lib.hid (fun k (hk : k ≤ 12) z => power5_any (F : Int) k z (by omega) (fun j hj => by have := pwF F j h6 h2 (by omega); omega))
  have HPb := Lib.hid (fun k (hk : k ≤ 12) => pwF F k h6 h2 hk)
  have HF := Lib.hid (fun x y z a b c d => frac5_any x y z a b c d)
  have HN := Lib.hid (fun l t => (show innF F (toldL F l) (l + 1) (t + 1) = innF F (toldL F l) (l + 1) t + (toldL F l).getD (l + 1 - (t + 1)) 0 * pwI (F : Int) t from rfl))
  have H0 := Lib.hid (fun l => (show innF F (toldL F l) (l + 1) 0 = pwI (F : Int) (l + 1) from rfl))
  have HTL := Lib.hid (toldL_len F)
  have Hend := Lib.hid (show 0 ≤ (toldL F L).getD L 0 ∧ (toldL F L).getD L 0 ≤ 4611686018427387904 by
    have h := (rolls_bd F L h2 h6 hL)
    have g := (h.2 (L + 1) (by omega)).1
    rw [h.1] at g
    exact g)
  go_enter Try.func29, Try.ntmps29
  go_wp2_with fail
  refine (HI.out _).mono ?_
  rintro e w' ⟨rfl, rfl⟩
  go_wp2_with fail
  refine (HR.out _).mono ?_
  rintro e w' ⟨rfl, rfl⟩
  go_wp2
  go_loopw [7, 8] (fun out i wr => ∃ l : Nat, l ≤ L ∧ i = .int .i64 ((l : Int) + 1) ∧ Hid (wr.ownsRow w.heap.size 2 1 out (l + 1) ((toldL F l).map (Value.int .i64))) ∧ Hid (Below w.heap.size w wr)) (fun _ i _ => L + 1 - (intOf i).toNat)
  case atStart => exact ⟨0, Nat.zero_le _, rfl, Lib.hid (own_one0 w _), Lib.hid ((Below.refl _ _).alloc (Nat.le_refl _) _)⟩
  case round =>
    obtain ⟨l, hl, rfl, hown, hb⟩ := hrel
    have hsz := hb.out.size
    by_cases hlt : l < L
    · have HPl := Lib.hid (HP.out (l + 1) (by omega))
      have hcast : (l : Int) + 1 = ((l + 1 : Nat) : Int) := rfl
      have HH0 := Lib.hid (H0.out l)
      have HPl2 : Hid (∀ z, Calls Try.prog 82 #[.int .i64 (F : Int), .int .i64 ((l : Int) + 1)] z fun e w' => e = .returned (.int .i64 (pwI (F : Int) (l + 1))) ∧ z = w') := HPl
      have hs := Sw.of_owns (d := 0) hown.out (HTL.out l)
      obtain ⟨p, cap, rfl, hf⟩ := hs
      rw [HTL.out] at hown hf
      rw [HTL.out]
      obtain ⟨hcap, bb, off, rfl, hlo, hhi, -, hcell⟩ := hf (by omega)
      have Hc := Lib.hid (fun k hk => (hcell k hk).1)
      obtain ⟨wo, rfl⟩ : ∃ z, z = wr := ⟨_, rfl⟩
      clear hcell hf hcast
      go_wp2_with fail
      refine (HPl2.out _).mono ?_
      rintro e w3 ⟨rfl, rfl⟩
      go_wp2
      go_loopw [9, 10] (fun s i wi => ∃ t : Nat, t ≤ min F l ∧ i = .int .i64 ((t : Int) + 1) ∧ s = .int .i64 (innF F (toldL F l) (l + 1) t) ∧ Hid (Drawn wo wi)) (fun _ i _ => 20 - (intOf i).toNat)
      case atStart => exact ⟨0, Nat.zero_le _, rfl, by rw [HH0.out], Lib.hid (Drawn.refl _)⟩
      case round =>
        obtain ⟨t, ht, rfl, rfl, hw⟩ := hrel
        by_cases hlt2 : t < min F l
        · obtain ⟨⟨s1, s2⟩, ⟨m1, m2⟩, ⟨c1, c2⟩⟩ := HB.out l t (by omega) (by omega)
          obtain ⟨⟨n1, n2⟩, -, -⟩ := HB.out l (t + 1) (by omega) (by omega)
          have hN := HN.out l t
          rw [hN] at n1 n2
          have HN2 := Lib.hid hN
          have g1 : (t : Int) + 1 ≤ (F : Int) := by omega
          have g2 : (t : Int) + 1 < (l : Int) + 1 := by omega
          have hidx : (l : Int) + 1 - ((t : Int) + 1) = ((l + 1 - (t + 1) : Nat) : Int) := by omega
          have hD : l + 1 - (t + 1) < l + 1 := by omega
          have cc := (hw.out.cell _).trans (Hc.out (l + 1 - (t + 1)) (by omega))
          obtain ⟨p1, p2⟩ := HPb.out t (by omega)
          have HPt := Lib.hid (HP.out t (by omega))
          have t7 : t ≤ 6 := by omega
          have Hlt2 := Lib.hid hlt2
          clear hN hlt2 ht
          generalize l + 1 - (t + 1) = D at *
          generalize (toldL F l).getD D 0 = x at *
          generalize innF F (toldL F l) (l + 1) t = S at *
          generalize pwI (F : Int) t = P at *
          go_wp2
          go_quiet ((go_at_call 82; exact quiet_same (HPt.out _)))
          go_wp2
          go_roundw
          case rel => exact ⟨t + 1, by have := Hlt2.out; omega, by go_num, by rw [HN2.out], Lib.hid (hw.out.more _)⟩
          case measure => simp [intOf]; omega
        · obtain rfl : t = min F l := by omega
          obtain ⟨nn, hnn⟩ := hw.out
          have Hown3 : Hid (World.ownsRow wr w.heap.size 2 1 (.slice (some ⟨bb, off, none⟩) (l + 1) cap) (l + 1) ((toldL F l).map (Value.int .i64))) := Lib.hid (by rw [hnn]; exact hown.out)
          have Hb3 : Hid (Below w.heap.size w wr) := Lib.hid (by rw [hnn]; exact below_drewN hb.out nn)
          have hsz3 := Hb3.out.size
          have Hsn := Lib.hid (fun (z : World) (v : Value) h => told_snoc (w := z) (base := w.heap.size) (e := 2) (v := v) (F := F) (l := l) h)
          have g1 : ¬ ((min F l : Nat) : Int) + 1 ≤ (F : Int) ∨ (((min F l : Nat) : Int) + 1 ≤ (F : Int) ∧ ¬ ((min F l : Nat) : Int) + 1 < (l : Int) + 1) := by omega
          have hm6 : min F l ≤ 6 := by omega
          clear hnn hlt2 ht
          generalize innF F (toldL F l) (l + 1) (min F l) = S at *
          generalize min F l = t at *
          rcases g1 with g1 | ⟨g1, g2⟩
          all_goals
            go_wp2_with (at_builtin; refine wpList_append_own _ rfl _ _ 22 rfl w.heap.size 2 i0 (.int .i64 0) 1 8 (by kernel_rfl) hi hz0 hz1 hz2 rfl (by decide) _ _ _ rfl (Hown3.out.alloc _) ⟨wr.heap.size, 0, none⟩ 1 1 [.int .i64 S] rfl rfl (cell_one_new _ _ _) (one_int _) (by unfold maxLen; omega) (by omega) (by simp; omega) ?_; intro v2 w2 hown2 hgrow2 hne2; clear hne2)
            have Hown4 := Lib.hid (Hsn.out _ _ hown2)
            have Hb4 := Lib.hid ((Hb3.out.alloc (by omega) _).grown hgrow2 (by simp; omega) (fun b hb => (Hown3.out.lt b hb).1))
            clear hown2 hgrow2
            go_wp2
            go_roundw
            case rel => exact ⟨l + 1, by omega, by go_num, Hown4, Hb4⟩
            case measure => simp [intOf]; omega
    · obtain rfl : l = L := by omega
      have hs := Sw.of_owns (d := 0) hown.out (HTL.out l)
      obtain ⟨p, cap, rfl, hf⟩ := hs
      rw [HTL.out] at hf
      rw [HTL.out]
      obtain ⟨hcap, bb, off, rfl, hlo, hhi, -, hcell⟩ := hf (by omega)
      have cc := (hcell l (by omega)).1
      obtain ⟨a1, a2⟩ := Hend.out
      obtain ⟨p1, p2⟩ := HPb.out l hL
      have HPk := Lib.hid (HP.out l hL)
      have HFk := Lib.hid (fun z => HF.out ((toldL F l).getD l 0) (pwI (F : Int) l) z a1 (by omega) p1 (by omega))
      generalize hG : gcdI ((toldL F l).getD l 0) (pwI (F : Int) l) = G at *
      generalize hN1 : (toldL F l).getD l 0 = N at *
      generalize hP1 : pwI (F : Int) l = P at *
      have HG := Lib.hid hG
      have HN1 := Lib.hid hN1
      have HP1 := Lib.hid hP1
      clear hG hN1 hP1 hf hcell
      go_wp2
      go_quiet ((first | (go_at_call 82; with_reducible exact quiet_same (HPk.out _)) | (go_at_call 80; with_reducible exact Calls.quiet_of (HFk.out _))))
      go_wp2
      go_ret3
      exact ⟨by rw [HN1.out, HP1.out, HG.out]; rfl, below_drewN hb.out _⟩
theorem spec_RaceRolls (a : Int) (al : -9223372036854775808 ≤ a) (au : a ≤ 9223372036854775807) (b : Int) (bl : -9223372036854775808 ≤ b) (bu : b ≤ 9223372036854775807) (w : World) :
    Calls Try.prog 29 #[.int .i64 a, .int .i64 b] w fun e w' => e = .returned (.tuple #[.int .i64 (res_RaceRolls a b), .int .i64 (res2_RaceRolls a b), .bool (ok_RaceRolls a b)]) ∧ Below w.heap.size w w' := by
  have E : okRolls a b = ((decide (0 ≤ a) && decide (a ≤ 12)) && (decide (2 ≤ b) && decide (b ≤ 6))) := rfl
  by_cases ha : 0 ≤ a ∧ a ≤ 12
  · by_cases hb : 2 ≤ b ∧ b ≤ 6
    · rw [decide_eq_true ha.1, decide_eq_true ha.2, decide_eq_true hb.1, decide_eq_true hb.2] at E
      unfold ok_RaceRolls res_RaceRolls res2_RaceRolls
      rw [E, if_pos (by rfl), if_pos (by rfl)]
      unfold numR
      obtain ⟨L, rfl⟩ : ∃ L : Nat, a = L := ⟨a.toNat, by omega⟩
      obtain ⟨F, rfl⟩ : ∃ F : Nat, b = F := ⟨b.toNat, by omega⟩
      rw [Int.toNat_natCast, Int.toNat_natCast]
      exact rolls_spec F L w (by omega) (by omega) (by omega)
    · have E2 : okRolls a b = false := by rw [E, show (decide (2 ≤ b) && decide (b ≤ 6)) = false by simpa using hb, Bool.and_false]
      obtain ⟨e0, e1, e2⟩ := rolls_no E2
      rw [e0, e1, e2]
      have HI := Lib.hid (fun z => in_yes a 0 12 z ha.1 ha.2)
      have HR := Lib.hid (fun z => in_no b 2 6 z (by omega))
      clear e0 e1 e2 E E2 hb
      go_enter Try.func29, Try.ntmps29
      go_wp2_with fail
      refine (HI.out _).mono ?_
      rintro e w' ⟨rfl, rfl⟩
      go_wp2_with fail
      refine (HR.out _).mono ?_
      rintro e w' ⟨rfl, rfl⟩
      go_wp2
      go_ret3
      exact ⟨rfl, Below.refl _ _⟩
  · have E2 : okRolls a b = false := by rw [E, show (decide (0 ≤ a) && decide (a ≤ 12)) = false by simpa using ha, Bool.false_and]
    obtain ⟨e0, e1, e2⟩ := rolls_no E2
    rw [e0, e1, e2]
    have HI := Lib.hid (fun z => in_no a 0 12 z (by omega))
    clear e0 e1 e2 E E2 ha
    go_enter Try.func29, Try.ntmps29
    go_wp2_with fail
    refine (HI.out _).mono ?_
    rintro e w' ⟨rfl, rfl⟩
    go_wp2
    go_ret3
    exact ⟨rfl, Below.refl _ _⟩
end Go.Proofs.Ytodmaomngpnboaa
