/- Contracts: even throws: the model. -/
import Derived.Test.YtaimbadajgjhaabNg
set_option linter.unusedVariables false
namespace Go.Proofs.Ytaimbadajgjhaab
open Go.RowKit

set_option maxRecDepth 100000 in
set_option maxHeartbeats 1000000 in
theorem spec_EvenThrows (fs : List Int) (v : Value) (w : World) (hn : fs.length ≤ 1048576) (h : Sl (Value.int .i64) 0 w v fs) :
    Calls Try.prog 49 #[v] w fun e w' => ∃ r, e = .returned (.tuple #[r, .bool (ok_EvenThrows fs)]) ∧ Sw (Value.int .i64) 0 w' r (res_EvenThrows fs) w.heap.size w'.heap.size ∧ Below w.heap.size w w' := by
  have ht := throwsS_any fs v w hn h
  unfold res_EvenThrows
  have E : ok_EvenThrows fs = ((decide (thrN fs.length = 3) && oppB fs 3) && (decide (1 ≤ fs.getD 1 0) && (decide (1 ≤ fs.getD 5 0) && decide (1 ≤ fs.getD 6 0)))) := rfl
  by_cases hT : thrN fs.length = 3 ∧ oppB fs 3 = true
  · have h9 := thr3 _ hT.1
    have bd := ev_bd fs hT.2 h9
    rw [hT.1, hT.2] at ht
    have Ht : Hid (Calls Try.prog 81 #[v] w fun e w' => e = .returned (.int .i64 3) ∧ Drawn w w') := Lib.hid ht
    rw [decide_eq_true hT.1, hT.2, Bool.true_and, Bool.true_and] at E
    obtain ⟨b1l, b1u⟩ := bd 1 (by omega)
    obtain ⟨b5l, b5u⟩ := bd 5 (by omega)
    obtain ⟨b6l, b6u⟩ := bd 6 (by omega)
    have hg : evG fs = gcdI (gcdI (fs.getD 5 0) (fs.getD 6 0)) (fs.getD 1 0) := rfl
    rw [hg]
    clear ht bd hT hg
    obtain ⟨q, cap, rfl, hf⟩ := h
    rw [h9] at hf Ht
    rw [h9]
    obtain ⟨hcap, b, off, rfl, hbs, hcell⟩ := hf (by omega)
    have g1 := hcell 1 (by omega)
    have g5 := hcell 5 (by omega)
    have g6 := hcell 6 (by omega)
    clear hf hcell h9 hn
    generalize fs.getD 1 0 = x1 at *
    generalize fs.getD 5 0 = x5 at *
    generalize fs.getD 6 0 = x6 at *
    generalize ok_EvenThrows fs = R at *
    by_cases h1 : 1 ≤ x1
    · by_cases h5 : 1 ≤ x5
      · by_cases h6 : 1 ≤ x6
        · rw [decide_eq_true h1, decide_eq_true h5, decide_eq_true h6] at E
          have hR : R = true := E
          subst hR
          rw [if_pos rfl]
          have k1 := gcdI_bd x5 x6 h6
          have c1 := Lib.hid (fun w => gcd5_spec x5.toNat x6.toNat w (by omega) (by omega))
          rw [show ((Nat.gcd x5.toNat x6.toNat : Nat) : Int) = gcdI x5 x6 from rfl, Int.toNat_of_nonneg (by omega), Int.toNat_of_nonneg (by omega)] at c1
          generalize gcdI x5 x6 = gg at *
          have k2 := gcdI_bd gg x1 h1
          have c2 := Lib.hid (fun w => gcd5_spec gg.toNat x1.toNat w (by omega) (by omega))
          rw [show ((Nat.gcd gg.toNat x1.toNat : Nat) : Int) = gcdI gg x1 from rfl, Int.toNat_of_nonneg (by omega), Int.toNat_of_nonneg (by omega)] at c2
          generalize gcdI gg x1 = g at *
          obtain ⟨k1l, k1u⟩ := k1
          obtain ⟨k2l, k2u⟩ := k2
          clear E
          go_enter Try.func49, Try.ntmps49
          go_wp2_with fail
          refine (Ht.out).mono ?_
          rintro e w2 ⟨rfl, hd⟩
          have Hd := Lib.hid hd
          have d1 := (hd.cell _).trans g1
          have d5 := (hd.cell _).trans g5
          have d6 := (hd.cell _).trans g6
          clear hd
          go_wp2
          go_quiet ((go_at_call 85; first | (with_reducible exact Calls.quiet_of (c1.out _)) | (with_reducible exact Calls.quiet_of (c2.out _))))
          go_wp2
          go_region
          all_goals
            go_wp2
            go_ret2
            exact ⟨_, rfl, sw_three _ _ _ _ _ _ (by rw [(Hd.out.more _).heap]; exact Nat.le_refl _), ((Hd.out.more _).below _).alloc (by rw [(Hd.out.more _).heap]; exact Nat.le_refl _) _⟩
        · have hR : R = false := by rw [E, decide_eq_false h6]; simp
          clear E
          have E := hR
          rw [E]
          rw [if_neg (by decide)]
          clear E
          go_enter Try.func49, Try.ntmps49
          go_wp2_with fail
          refine (Ht.out).mono ?_
          rintro e w2 ⟨rfl, hd⟩
          have Hd := Lib.hid hd
          have d1 := (hd.cell _).trans g1
          have d5 := (hd.cell _).trans g5
          have d6 := (hd.cell _).trans g6
          clear hd
          go_wp2
          all_goals first | (exfalso; omega) | skip
          all_goals
            go_ret2
            exact ⟨_, rfl, Sw.nil _ _ _ _ _ _ _, Hd.out.below _⟩
      · have hR : R = false := by rw [E, decide_eq_false h5]; simp
        clear E
        have E := hR
        rw [E]
        rw [if_neg (by decide)]
        clear E
        go_enter Try.func49, Try.ntmps49
        go_wp2_with fail
        refine (Ht.out).mono ?_
        rintro e w2 ⟨rfl, hd⟩
        have Hd := Lib.hid hd
        have d1 := (hd.cell _).trans g1
        have d5 := (hd.cell _).trans g5
        have d6 := (hd.cell _).trans g6
        clear hd
        go_wp2
        all_goals first | (exfalso; omega) | skip
        all_goals
          go_ret2
          exact ⟨_, rfl, Sw.nil _ _ _ _ _ _ _, Hd.out.below _⟩
    · have hR : R = false := by rw [E, decide_eq_false h1]; simp
      clear E
      have E := hR
      rw [E]
      rw [if_neg (by decide)]
      clear E
      go_enter Try.func49, Try.ntmps49
      go_wp2_with fail
      refine (Ht.out).mono ?_
      rintro e w2 ⟨rfl, hd⟩
      have Hd := Lib.hid hd
      have d1 := (hd.cell _).trans g1
      have d5 := (hd.cell _).trans g5
      have d6 := (hd.cell _).trans g6
      clear hd
      go_wp2
      all_goals first | (exfalso; omega) | skip
      all_goals
        go_ret2
        exact ⟨_, rfl, Sw.nil _ _ _ _ _ _ _, Hd.out.below _⟩
  · have hR : ok_EvenThrows fs = false := by
      rw [E]
      cases e : (decide (thrN fs.length = 3) && oppB fs 3)
      · rfl
      · rw [Bool.and_eq_true] at e
        exact absurd ⟨of_decide_eq_true e.1, e.2⟩ hT
    obtain ⟨T, hT3, Ht⟩ : ∃ T : Nat, T ≠ 3 ∧ Hid (Calls Try.prog 81 #[v] w fun e w' => e = .returned (.int .i64 (T : Int)) ∧ Drawn w w') := by
      refine ⟨_, ?_, Lib.hid ht⟩
      intro e
      by_cases h3 : oppB fs (thrN fs.length) = true
      · rw [if_pos h3] at e
        rw [e] at h3
        exact hT ⟨e, h3⟩
      · rw [if_neg h3] at e
        cases e
    rw [hR, if_neg (by decide)]
    have nb : ((T : Int) != 3) = true := by rw [bne_iff_ne]; omega
    have nb2 : ((T : Int) = 3) = False := eq_false (by omega)
    obtain ⟨q, cap, rfl, -⟩ := h
    clear E hR ht hT hT3
    generalize fs.length = n at *
    go_enter Try.func49, Try.ntmps49
    go_wp2_with fail
    refine (Ht.out).mono ?_
    rintro e w2 ⟨rfl, hd⟩
    have Hd := Lib.hid hd
    clear hd
    go_wp2
    go_ret2
    exact ⟨_, rfl, Sw.nil _ _ _ _ _ _ _, Hd.out.below _⟩
end Go.Proofs.Ytaimbadajgjhaab
