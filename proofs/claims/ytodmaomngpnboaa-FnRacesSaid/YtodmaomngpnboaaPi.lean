/- Contracts: races of two, the model. -/
import Derived.Test.YtodmaomngpnboaaPg
set_option linter.unusedVariables false
namespace Go.Proofs.Ytodmaomngpnboaa
open Go.RowKit Go.Maps

theorem pw6b : ∀ k, k < 17 → pwI 6 k ≤ 2821109907456 := by decide +kernel
theorem pwFb (F k : Nat) (hF : F ≤ 6) (h2 : 2 ≤ F) (hk : k ≤ 16) : 1 ≤ pwI (F : Int) k ∧ pwI (F : Int) k ≤ 2821109907456 := by
  have h1 := pwI_mono5 (F : Int) 6 (by omega) (by omega) k
  have h3 := pw6b k (by omega)
  have h4 := pwI_one (F : Int) (by omega) k
  omega
theorem tabS_at (F L O t : Nat) (h2 : 2 ≤ F) (h6 : F ≤ 6) (l1 : 1 ≤ L) (l8 : L ≤ 8) (o1 : 1 ≤ O) (o8 : O ≤ 8) (ht : t < F + 1) : (0 ≤ raceS (raceV F) F L O t ∧ raceS (raceV F) F L O t ≤ 4611686018427387904) ∧ (¬ L ≤ t + 1 → (0 ≤ raceV F O (L - (t + 1)) * pwI (F : Int) t ∧ raceV F O (L - (t + 1)) * pwI (F : Int) t ≤ 4611686018427387904) ∧ (0 ≤ pwI (F : Int) (L + O - 1) - raceV F O (L - (t + 1)) * pwI (F : Int) t ∧ pwI (F : Int) (L + O - 1) - raceV F O (L - (t + 1)) * pwI (F : Int) t ≤ 4611686018427387904) ∧ 0 ≤ raceV F O (L - (t + 1)) ∧ raceV F O (L - (t + 1)) ≤ 4611686018427387904) := by
  obtain ⟨f, rfl⟩ : ∃ f, F = f + 2 := ⟨F - 2, by omega⟩
  obtain ⟨l, rfl⟩ : ∃ l, L = l + 1 := ⟨L - 1, by omega⟩
  obtain ⟨o, rfl⟩ : ∃ o, O = o + 1 := ⟨O - 1, by omega⟩
  have h := tabS_all f (by omega) l (by omega) o (by omega)
  unfold tabS at h
  rw [List.all_eq_true] at h
  have g := h t (List.mem_range.2 ht)
  rw [Bool.and_eq_true] at g
  refine ⟨bdR_at g.1, fun hn => ?_⟩
  have g2 := g.2
  rw [decide_eq_false hn, Bool.false_or, Bool.and_eq_true, Bool.and_eq_true] at g2
  exact ⟨bdR_at g2.1.1, bdR_at g2.1.2, bdR_at g2.2⟩
set_option maxRecDepth 100000 in
set_option maxHeartbeats 1000000 in
theorem race_any (F : Nat) (h2 : 2 ≤ F) (h6 : F ≤ 6) : ∀ n L O : Nat, L + O ≤ n → 1 ≤ L → L ≤ 8 → 1 ≤ O → O ≤ 8 → ∀ w : World,
    Calls Try.prog 81 #[.int .i64 (L : Int), .int .i64 (O : Int), .int .i64 (F : Int)] w fun e w' => e = .returned (.int .i64 (raceV F L O)) ∧ w = w' := by
  intro n
  induction n with
  | zero => intro L O h l1 _ o1; omega
  | succ n ih =>
    intro L O hLO l1 l8 o1 o8 w
    have HB := Lib.hid (fun t ht => tabS_at F L O t h2 h6 l1 l8 o1 o8 ht)
    have HI := Lib.hid (fun t (ht : ¬ L ≤ t + 1) z => ih O (L - (t + 1)) (by omega) o1 o8 (by omega) (by omega) z)
    have HP := Lib.hid (fun k (hk : k ≤ 16) z => power5_any (F : Int) k z (by omega) (fun j hj => by have := pwFb F j h6 h2 (by omega); omega))
    have HPb := Lib.hid (fun k (hk : k ≤ 16) => pwFb F k h6 h2 hk)
    have hp := fun z => HP.out (L + O - 1) (by omega) z
    rw [show ((L + O - 1 : Nat) : Int) = (L : Int) + (O : Int) - 1 by omega] at hp
    have HPw := Lib.hid hp
    have HV := Lib.hid (raceV_eq F L O l1 o1)
    have HN := Lib.hid (fun t => (show raceS (raceV F) F L O (t + 1) = raceS (raceV F) F L O t + (if L ≤ t + 1 then pwI (F : Int) (L + O - 1) else pwI (F : Int) (L + O - 1) - raceV F O (L - (t + 1)) * pwI (F : Int) t) from rfl))
    have H0 : Hid (raceS (raceV F) F L O 0 = 0) := Lib.hid rfl
    clear ih hp
    rw [HV.out]
    go_enter Try.func81, Try.ntmps81
    go_wp2
    go_loop [7, 8] (fun s i => ∃ t : Nat, t ≤ F ∧ i = .int .i64 ((t : Int) + 1) ∧ s = .int .i64 (raceS (raceV F) F L O t)) (fun _ i => 20 - (intOf i).toNat)
    case atStart => exact ⟨0, Nat.zero_le _, rfl, by rw [H0.out]⟩
    case round =>
      obtain ⟨t, ht, rfl, rfl⟩ := hrel
      by_cases hlt : t < F
      · obtain ⟨⟨s1, s2⟩, hx⟩ := HB.out t (by omega)
        obtain ⟨⟨n1, n2⟩, -⟩ := HB.out (t + 1) (by omega)
        obtain ⟨w1, w2⟩ := HPb.out (L + O - 1) (by omega)
        obtain ⟨p1, p2⟩ := HPb.out t (by omega)
        have hN := HN.out t
        by_cases hc : L ≤ t + 1
        · rw [if_pos hc] at hN
          rw [hN] at n1 n2
          have HN2 := Lib.hid hN
          clear hN hx
          generalize raceS (raceV F) F L O t = S at *
          generalize pwI (F : Int) (L + O - 1) = P at *
          go_wp2_with fail
          refine (HPw.out _).mono ?_
          rintro e w3 ⟨rfl, rfl⟩
          go_wp2
          go_round
          case rel => exact ⟨t + 1, by omega, by go_num, by rw [HN2.out]⟩
          case measure => simp [intOf]; omega
        · rw [if_neg hc] at hN
          rw [hN] at n1 n2
          have HN2 := Lib.hid hN
          obtain ⟨⟨x1, x2⟩, ⟨y1, y2⟩, ⟨z1, z2⟩⟩ := hx hc
          have hi := HI.out t hc
          rw [show ((L - (t + 1) : Nat) : Int) = (L : Int) - ((t : Int) + 1) by omega] at hi
          have HIt := Lib.hid hi
          have HPt := Lib.hid (HP.out t (by omega))
          clear hN hx hi
          generalize raceS (raceV F) F L O t = S at *
          generalize pwI (F : Int) (L + O - 1) = P at *
          generalize pwI (F : Int) t = Q at *
          generalize raceV F O (L - (t + 1)) = R at *
          go_wp2_with fail
          refine (HPw.out _).mono ?_
          rintro e w3 ⟨rfl, rfl⟩
          go_wp2_with fail
          refine (HIt.out _).mono ?_
          rintro e w3 ⟨rfl, rfl⟩
          go_wp2_with fail
          refine (HPt.out _).mono ?_
          rintro e w3 ⟨rfl, rfl⟩
          go_wp2
          go_round
          case rel => exact ⟨t + 1, by omega, by go_num, by rw [HN2.out]⟩
          case measure => simp [intOf]; omega
      · obtain rfl : t = F := by omega
        go_wp2
        go_ret
        exact ⟨rfl, rfl⟩
def okRace (a b c : Int) : Bool := ((decide (0 ≤ a) && decide (a ≤ 8)) && (decide (0 ≤ b) && decide (b ≤ 8))) && (decide (2 ≤ c) && decide (c ≤ 6))
def raceX (a b c : Int) : Int := if a = 0 then 1 else if b = 0 then 0 else raceV c.toNat a.toNat b.toNat / gcdI (raceV c.toNat a.toNat b.toNat) (pwI c (a.toNat + b.toNat))
def raceY (a b c : Int) : Int := if a = 0 then 1 else if b = 0 then 1 else pwI c (a.toNat + b.toNat) / gcdI (raceV c.toNat a.toNat b.toNat) (pwI c (a.toNat + b.toNat))
def ok_RaceChance (a b c : Int) : Bool := okRace a b c
def res_RaceChance (a b c : Int) : Int := if okRace a b c = true then raceX a b c else 0
def res2_RaceChance (a b c : Int) : Int := if okRace a b c = true then raceY a b c else 0
theorem race_no {a b c : Int} (h : okRace a b c = false) : ok_RaceChance a b c = false ∧ res_RaceChance a b c = 0 ∧ res2_RaceChance a b c = 0 := by
  unfold ok_RaceChance res_RaceChance res2_RaceChance
  rw [h]
  exact ⟨rfl, rfl, rfl⟩
theorem raceV_bd (F L O : Nat) (h2 : 2 ≤ F) (h6 : F ≤ 6) (l1 : 1 ≤ L) (l8 : L ≤ 8) (o1 : 1 ≤ O) (o8 : O ≤ 8) : 0 ≤ raceV F L O ∧ raceV F L O ≤ 4611686018427387904 := by
  rw [raceV_eq F L O l1 o1]
  exact (tabS_at F L O F h2 h6 l1 l8 o1 o8 (by omega)).1
set_option maxRecDepth 100000 in
set_option maxHeartbeats 1000000 in
theorem spec_RaceChance (a : Int) (al : -9223372036854775808 ≤ a) (au : a ≤ 9223372036854775807) (b : Int) (bl : -9223372036854775808 ≤ b) (bu : b ≤ 9223372036854775807) (c : Int) (cl : -9223372036854775808 ≤ c) (cu : c ≤ 9223372036854775807) (w : World) :
    Calls Try.prog 27 #[.int .i64 a, .int .i64 b, .int .i64 c] w fun e w' => e = .returned (.tuple #[.int .i64 (res_RaceChance a b c), .int .i64 (res2_RaceChance a b c), .bool (ok_RaceChance a b c)]) ∧ Below w.heap.size w w' := by
  have E : okRace a b c = (((decide (0 ≤ a) && decide (a ≤ 8)) && (decide (0 ≤ b) && decide (b ≤ 8))) && (decide (2 ≤ c) && decide (c ≤ 6))) := rfl
  have HA := Lib.hid (fun z => inB_any a 0 8 z)
  have HB := Lib.hid (fun z => inB_any b 0 8 z)
  have HC := Lib.hid (fun z => inB_any c 2 6 z)
  by_cases ha : 0 ≤ a ∧ a ≤ 8
  · rw [decide_eq_true ha.1, decide_eq_true ha.2] at E HA
    by_cases hb : 0 ≤ b ∧ b ≤ 8
    · rw [decide_eq_true hb.1, decide_eq_true hb.2] at E HB
      by_cases hc : 2 ≤ c ∧ c ≤ 6
      · rw [decide_eq_true hc.1, decide_eq_true hc.2] at E HC
        unfold ok_RaceChance res_RaceChance res2_RaceChance
        rw [E, if_pos (by rfl), if_pos (by rfl)]
        clear E
        by_cases a0 : a = 0
        · subst a0
          unfold raceX raceY
          rw [if_pos rfl, if_pos rfl]
          go_enter Try.func27, Try.ntmps27
          go_wp2_with fail
          refine (HA.out _).mono ?_
          rintro e w' ⟨rfl, rfl⟩
          go_wp2_with fail
          refine (HB.out _).mono ?_
          rintro e w' ⟨rfl, rfl⟩
          go_wp2_with fail
          refine (HC.out _).mono ?_
          rintro e w' ⟨rfl, rfl⟩
          go_wp2
          go_ret3
          exact ⟨rfl, Below.refl _ _⟩
        · by_cases b0 : b = 0
          · subst b0
            unfold raceX raceY
            rw [if_neg a0, if_neg a0, if_pos rfl, if_pos rfl]
            go_enter Try.func27, Try.ntmps27
            go_wp2_with fail
            refine (HA.out _).mono ?_
            rintro e w' ⟨rfl, rfl⟩
            go_wp2_with fail
            refine (HB.out _).mono ?_
            rintro e w' ⟨rfl, rfl⟩
            go_wp2_with fail
            refine (HC.out _).mono ?_
            rintro e w' ⟨rfl, rfl⟩
            go_wp2
            go_ret3
            exact ⟨rfl, Below.refl _ _⟩
          · unfold raceX raceY
            rw [if_neg a0, if_neg a0, if_neg b0, if_neg b0]
            obtain ⟨L, rfl⟩ : ∃ L : Nat, a = L := ⟨a.toNat, by omega⟩
            obtain ⟨O, rfl⟩ : ∃ O : Nat, b = O := ⟨b.toNat, by omega⟩
            obtain ⟨F, rfl⟩ : ∃ F : Nat, c = F := ⟨c.toNat, by omega⟩
            rw [Int.toNat_natCast, Int.toNat_natCast, Int.toNat_natCast]
            have HR := Lib.hid (fun z => race_any F (by omega) (by omega) (L + O) L O (Nat.le_refl _) (by omega) (by omega) (by omega) (by omega) z)
            have hp := fun z => power5_any (F : Int) (L + O) z (by omega) (fun j hj => by have := pwFb F j (by omega) (by omega) (by omega); omega)
            rw [show ((L + O : Nat) : Int) = (L : Int) + (O : Int) from rfl] at hp
            have HP := Lib.hid hp
            obtain ⟨v1, v2⟩ := raceV_bd F L O (by omega) (by omega) (by omega) (by omega) (by omega) (by omega)
            obtain ⟨p1, p2⟩ := pwFb F (L + O) (by omega) (by omega) (by omega)
            have HF := Lib.hid (fun z => frac5_any (raceV F L O) (pwI (F : Int) (L + O)) z v1 (by omega) p1 (by omega))
            clear hp
            generalize gcdI (raceV F L O) (pwI (F : Int) (L + O)) = G at *
            generalize raceV F L O = V at *
            generalize pwI (F : Int) (L + O) = P at *
            go_enter Try.func27, Try.ntmps27
            go_wp2_with fail
            refine (HA.out _).mono ?_
            rintro e w' ⟨rfl, rfl⟩
            go_wp2_with fail
            refine (HB.out _).mono ?_
            rintro e w' ⟨rfl, rfl⟩
            go_wp2_with fail
            refine (HC.out _).mono ?_
            rintro e w' ⟨rfl, rfl⟩
            go_wp2_with fail
            refine (HR.out _).mono ?_
            rintro e w' ⟨rfl, rfl⟩
            go_wp2_with fail
            refine (HP.out _).mono ?_
            rintro e w' ⟨rfl, rfl⟩
            go_wp2_with fail
            refine (HF.out _).mono ?_
            rintro e w' ⟨rfl, hd⟩
            have Hd := Lib.hid hd
            clear hd
            go_wp2
            go_ret3
            exact ⟨rfl, Hd.out.below _⟩
      · have hc2 : (decide (2 ≤ c) && decide (c ≤ 6)) = false := by simpa using hc
        rw [hc2] at E HC
        obtain ⟨e0, e1, e2⟩ := race_no (E.trans (Bool.and_false _))
        rw [e0, e1, e2]
        clear e0 e1 e2 E hc hc2
        go_enter Try.func27, Try.ntmps27
        go_wp2_with fail
        refine (HA.out _).mono ?_
        rintro e w' ⟨rfl, rfl⟩
        go_wp2_with fail
        refine (HB.out _).mono ?_
        rintro e w' ⟨rfl, rfl⟩
        go_wp2_with fail
        refine (HC.out _).mono ?_
        rintro e w' ⟨rfl, rfl⟩
        go_wp2
        go_ret3
        exact ⟨rfl, Below.refl _ _⟩
    · have hb2 : (decide (0 ≤ b) && decide (b ≤ 8)) = false := by simpa using hb
      rw [hb2] at E HB
      obtain ⟨e0, e1, e2⟩ := race_no (E.trans (by rw [Bool.and_false, Bool.false_and]))
      rw [e0, e1, e2]
      clear e0 e1 e2 E hb hb2
      go_enter Try.func27, Try.ntmps27
      go_wp2_with fail
      refine (HA.out _).mono ?_
      rintro e w' ⟨rfl, rfl⟩
      go_wp2_with fail
      refine (HB.out _).mono ?_
      rintro e w' ⟨rfl, rfl⟩
      go_wp2
      go_ret3
      exact ⟨rfl, Below.refl _ _⟩
  · have ha2 : (decide (0 ≤ a) && decide (a ≤ 8)) = false := by simpa using ha
    rw [ha2] at E HA
    obtain ⟨e0, e1, e2⟩ := race_no (E.trans (by rw [Bool.false_and, Bool.false_and]))
    rw [e0, e1, e2]
    clear e0 e1 e2 E ha ha2
    go_enter Try.func27, Try.ntmps27
    go_wp2_with fail
    refine (HA.out _).mono ?_
    rintro e w' ⟨rfl, rfl⟩
    go_wp2
    go_ret3
    exact ⟨rfl, Below.refl _ _⟩
end Go.Proofs.Ytodmaomngpnboaa
