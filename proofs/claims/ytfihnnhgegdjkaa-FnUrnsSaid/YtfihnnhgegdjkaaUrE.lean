/- The law of urns: its walk. -/
import Derived.Test.YtfihnnhgegdjkaaUrD
import Derived.Test.YtfihnnhgegdjkaaUrS0
import Derived.Test.YtfihnnhgegdjkaaUrS1
import Derived.Test.YtfihnnhgegdjkaaUrT0a
import Derived.Test.YtfihnnhgegdjkaaUrT0b
import Derived.Test.YtfihnnhgegdjkaaUrT1a
import Derived.Test.YtfihnnhgegdjkaaUrT1b
import Derived.Test.YtfihnnhgegdjkaaUrT2a
import Derived.Test.YtfihnnhgegdjkaaUrT2b
import Derived.Test.YtfihnnhgegdjkaaUrT3a
import Derived.Test.YtfihnnhgegdjkaaUrT3b
import Derived.Test.YtfihnnhgegdjkaaUrT4a
import Derived.Test.YtfihnnhgegdjkaaUrT4b
import Derived.Test.YtfihnnhgegdjkaaUrT5a
import Derived.Test.YtfihnnhgegdjkaaUrT5b
set_option linter.unusedVariables false
namespace Go.Proofs.Ytfihnnhgegdjkaa
open Go.RowKit Fl Ieee


theorem gr_r0 (r b n : Nat) (hr : r < 12) (hb : b < 12) (hn : n < 7) : growsF r (b + 1) 0 n = true := by
  rcases Nat.lt_or_ge r 3 with h | h
  · have := gr_tab0_0 r h b hb n hn
    rw [Nat.zero_add] at this
    exact this
  · rcases Nat.lt_or_ge r 6 with h2 | h2
    · have := gr_tab0_1 (r - 3) (by omega) b hb n hn
      rw [show 3 + (r - 3) = r by omega] at this
      exact this
    · rcases Nat.lt_or_ge r 9 with h3 | h3
      · have := gr_tab0_2 (r - 6) (by omega) b hb n hn
        rw [show 6 + (r - 6) = r by omega] at this
        exact this
      · have := gr_tab0_3 (r - 9) (by omega) b hb n hn
        rw [show 9 + (r - 9) = r by omega] at this
        exact this
theorem gr_r1 (r b n : Nat) (hr : r < 12) (hb : b < 12) (hn : n < 7) : growsF r (b + 1) 1 n = true := by
  rcases Nat.lt_or_ge r 3 with h | h
  · have := gr_tab1_0 r h b hb n hn
    rw [Nat.zero_add] at this
    exact this
  · rcases Nat.lt_or_ge r 6 with h2 | h2
    · have := gr_tab1_1 (r - 3) (by omega) b hb n hn
      rw [show 3 + (r - 3) = r by omega] at this
      exact this
    · rcases Nat.lt_or_ge r 9 with h3 | h3
      · have := gr_tab1_2 (r - 6) (by omega) b hb n hn
        rw [show 6 + (r - 6) = r by omega] at this
        exact this
      · have := gr_tab1_3 (r - 9) (by omega) b hb n hn
        rw [show 9 + (r - 9) = r by omega] at this
        exact this
theorem gr_r2 (r b n : Nat) (hr : r < 12) (hb : b < 12) (hn : n < 7) : growsF r (b + 1) 2 n = true := by
  rcases Nat.lt_or_ge r 3 with h | h
  · have := gr_tab2_0 r h b hb n hn
    rw [Nat.zero_add] at this
    exact this
  · rcases Nat.lt_or_ge r 6 with h2 | h2
    · have := gr_tab2_1 (r - 3) (by omega) b hb n hn
      rw [show 3 + (r - 3) = r by omega] at this
      exact this
    · rcases Nat.lt_or_ge r 9 with h3 | h3
      · have := gr_tab2_2 (r - 6) (by omega) b hb n hn
        rw [show 6 + (r - 6) = r by omega] at this
        exact this
      · have := gr_tab2_3 (r - 9) (by omega) b hb n hn
        rw [show 9 + (r - 9) = r by omega] at this
        exact this
theorem gr_r3 (r b n : Nat) (hr : r < 12) (hb : b < 12) (hn : n < 7) : growsF r (b + 1) 3 n = true := by
  rcases Nat.lt_or_ge r 3 with h | h
  · have := gr_tab3_0 r h b hb n hn
    rw [Nat.zero_add] at this
    exact this
  · rcases Nat.lt_or_ge r 6 with h2 | h2
    · have := gr_tab3_1 (r - 3) (by omega) b hb n hn
      rw [show 3 + (r - 3) = r by omega] at this
      exact this
    · rcases Nat.lt_or_ge r 9 with h3 | h3
      · have := gr_tab3_2 (r - 6) (by omega) b hb n hn
        rw [show 6 + (r - 6) = r by omega] at this
        exact this
      · have := gr_tab3_3 (r - 9) (by omega) b hb n hn
        rw [show 9 + (r - 9) = r by omega] at this
        exact this
theorem gr_r4 (r b n : Nat) (hr : r < 12) (hb : b < 12) (hn : n < 7) : growsF r (b + 1) 4 n = true := by
  rcases Nat.lt_or_ge r 3 with h | h
  · have := gr_tab4_0 r h b hb n hn
    rw [Nat.zero_add] at this
    exact this
  · rcases Nat.lt_or_ge r 6 with h2 | h2
    · have := gr_tab4_1 (r - 3) (by omega) b hb n hn
      rw [show 3 + (r - 3) = r by omega] at this
      exact this
    · rcases Nat.lt_or_ge r 9 with h3 | h3
      · have := gr_tab4_2 (r - 6) (by omega) b hb n hn
        rw [show 6 + (r - 6) = r by omega] at this
        exact this
      · have := gr_tab4_3 (r - 9) (by omega) b hb n hn
        rw [show 9 + (r - 9) = r by omega] at this
        exact this
theorem gr_r5 (r b n : Nat) (hr : r < 12) (hb : b < 12) (hn : n < 7) : growsF r (b + 1) 5 n = true := by
  rcases Nat.lt_or_ge r 3 with h | h
  · have := gr_tab5_0 r h b hb n hn
    rw [Nat.zero_add] at this
    exact this
  · rcases Nat.lt_or_ge r 6 with h2 | h2
    · have := gr_tab5_1 (r - 3) (by omega) b hb n hn
      rw [show 3 + (r - 3) = r by omega] at this
      exact this
    · rcases Nat.lt_or_ge r 9 with h3 | h3
      · have := gr_tab5_2 (r - 6) (by omega) b hb n hn
        rw [show 6 + (r - 6) = r by omega] at this
        exact this
      · have := gr_tab5_3 (r - 9) (by omega) b hb n hn
        rw [show 9 + (r - 9) = r by omega] at this
        exact this
theorem ch_all (r b n : Nat) (hr : r < 12) (hb : b < 12) (hn : n < 7) : chanceF r (b + 1) n = true := by
  rcases Nat.lt_or_ge r 3 with h | h
  · have := ch_tab0 r h b hb n hn
    rw [Nat.zero_add] at this
    exact this
  · rcases Nat.lt_or_ge r 6 with h2 | h2
    · have := ch_tab1 (r - 3) (by omega) b hb n hn
      rw [show 3 + (r - 3) = r by omega] at this
      exact this
    · rcases Nat.lt_or_ge r 9 with h3 | h3
      · have := ch_tab2 (r - 6) (by omega) b hb n hn
        rw [show 6 + (r - 6) = r by omega] at this
        exact this
      · have := ch_tab3 (r - 9) (by omega) b hb n hn
        rw [show 9 + (r - 9) = r by omega] at this
        exact this
theorem gr_all (r b n e : Nat) (hr : r < 12) (hb1 : 1 ≤ b) (hb : b ≤ 12) (hn : n < 7) (he : e < 6) : growsB r b e n = true := by
  obtain ⟨b', rfl⟩ : ∃ b', b = b' + 1 := ⟨b - 1, by omega⟩
  obtain rfl | rfl | rfl | rfl | rfl | rfl : e = 0 ∨ e = 1 ∨ e = 2 ∨ e = 3 ∨ e = 4 ∨ e = 5 := by omega
  · exact growsF_is (gr_r0 r b' n hr (by omega) hn)
  · exact growsF_is (gr_r1 r b' n hr (by omega) hn)
  · exact growsF_is (gr_r2 r b' n hr (by omega) hn)
  · exact growsF_is (gr_r3 r b' n hr (by omega) hn)
  · exact growsF_is (gr_r4 r b' n hr (by omega) hn)
  · exact growsF_is (gr_r5 r b' n hr (by omega) hn)
theorem back_is (r b n k : Nat) (hr : r ≤ 12) (hb1 : 1 ≤ b) (hb : b ≤ 12) (hn : n < 7) (hk : k ≤ n) : ok_UrnBack (r : Int) (b : Int) (n : Int) (k : Int) = true ∧ res_UrnBack (r : Int) (b : Int) (n : Int) (k : Int) = uN r b 0 n k ∧ res2_UrnBack (r : Int) (b : Int) (n : Int) (k : Int) = uD r b 0 n k := by
  have h1 : okUB (r : Int) (b : Int) (n : Int) (k : Int) := by unfold okUB; omega
  have h2 : okUG (r : Int) (b : Int) (((0 : Nat) : Int)) (n : Int) (k : Int) := by unfold okUG; omega
  refine ⟨decide_eq_true h1, ?_, ?_⟩
  · unfold res_UrnBack uN res_UrnGrows
    rw [if_pos h1, if_pos h2]; rfl
  · unfold res2_UrnBack uD res2_UrnGrows
    rw [if_pos h1, if_pos h2]; rfl
theorem grows_ok (r b n k e : Nat) (hr : r ≤ 12) (hb1 : 1 ≤ b) (hb : b ≤ 12) (hn : n < 7) (hk : k ≤ n) (he : e < 6) : ok_UrnGrows (r : Int) (b : Int) (e : Int) (n : Int) (k : Int) = true := by
  unfold ok_UrnGrows okUG; exact decide_eq_true (by omega)
theorem chance_parts {r b n : Nat} (h : chanceB r b n = true) : floatBits .quo .f64 (floatOfInt .f64 ((n : Int) * (r : Int))) (floatOfInt .f64 ((r : Int) + (b : Int))) = some (tgtF r b n) ∧ (n ≤ r + b → sumB (cN r b n) (cD r b n) (n + 1) 0 0 = true ∧ ∀ k, k < n + 1 → r < k → cN r b n k = 0) := by
  unfold chanceB at h
  simp only [Bool.and_eq_true, Bool.or_eq_true, Bool.not_eq_true', decide_eq_false_iff_not, decide_eq_true_eq, List.all_eq_true, List.mem_range] at h
  obtain ⟨h1, h2⟩ := h
  obtain ⟨t, e⟩ := Option.isSome_iff_exists.1 h1
  refine ⟨by rw [e]; unfold tgtF fop; rw [e]; rfl, fun hn => ?_⟩
  rcases h2 with h2 | ⟨h3, h4⟩
  · exact absurd hn h2
  · exact ⟨h3, fun k hk hr => (h4 k hk).elim (fun x => absurd hr x) id⟩

set_option maxRecDepth 1000000 in
set_option maxHeartbeats 8000000 in
theorem walk_FnUrns (fs gs : List Int) (v v2 : Value) (w : World) (hl : fs.length ≤ maxLen) (hl2 : gs.length ≤ maxLen) (hbs : BsB gs) (h : Sl (Value.int .u8) 0 w v fs) (h2 : Sl (Value.int .u8) 0 w v2 gs) :
    Calls Try.prog 4 #[v, v2] w fun e w' => e = .returned (.bool true) ∧ Below w.heap.size w w' := by
  have HL := Lib.hid (long8_any fs gs v v2 w hl hl2 h h2)
  by_cases hlong : (decide (48 < fs.length) || decide (48 < gs.length)) = true
  · rw [hlong] at HL
    clear hlong h h2
    go_enter Try.func4, Try.ntmps4
    go_wp2_with (first | (go_at_call 5; refine HL.out.mono ?_; rintro e w' ⟨rfl, rfl⟩))
    go_ret
    exact ⟨rfl, Below.refl _ _⟩
  · rw [Bool.not_eq_true] at hlong
    rw [hlong] at HL
    clear hlong
    have HA := Lib.hid (fun (z : World) (hz : Below w.heap.size w z) (k n : Nat) (hn : 1 ≤ n) (hn2 : n ≤ 1000000) (hk : k ≤ 1000) => at8_any gs v2 k n z hn hn2 hk hl2 hbs (h2.later hz))
    have H40 := Lib.hid (fun z hz => HA.out z hz 40 12 (by omega) (by omega) (by omega))
    have H41 := Lib.hid (fun z hz => HA.out z hz 41 12 (by omega) (by omega) (by omega))
    have H42 := Lib.hid (fun z hz => HA.out z hz 42 7 (by omega) (by omega) (by omega))
    have H43 := Lib.hid (fun z hz => HA.out z hz 43 6 (by omega) (by omega) (by omega))
    have H44 := Lib.hid (fun z hz => HA.out z hz 44 12 (by omega) (by omega) (by omega))
    have H45 := Lib.hid (fun z hz => HA.out z hz 45 12 (by omega) (by omega) (by omega))
    have hr := r8V_lt gs 40 12 (by omega)
    have hb0 := r8V_lt gs 41 12 (by omega)
    have hn := r8V_lt gs 42 7 (by omega)
    have he := r8V_lt gs 43 6 (by omega)
    have ho := r8V_lt gs 44 12 (by omega)
    have hz0 := r8V_lt gs 45 12 (by omega)
    generalize r8V gs 40 12 = r at *
    generalize r8V gs 41 12 = b0 at *
    generalize r8V gs 42 7 = n at *
    generalize r8V gs 43 6 = ee at *
    generalize r8V gs 44 12 = o at *
    generalize r8V gs 45 12 = z0 at *
    have hch := chanceF_is (ch_all r b0 n hr hb0 hn)
    obtain ⟨b, hb⟩ : ∃ b, b = b0 + 1 := ⟨_, rfl⟩
    rw [← hb] at hch
    have Eb := Lib.hid (show (1 : Int) + (b0 : Int) = (b : Int) by omega)
    have hb1 : 1 ≤ b := by omega
    have hb2 : b ≤ 12 := by omega
    obtain ⟨ht, hcs⟩ := chance_parts hch
    have hg := gr_all r b n ee hr hb1 hb2 hn he
    have hg0 := gr_all r b n 0 hr hb1 hb2 hn (by omega)
    unfold growsB at hg hg0
    have HB0 := Lib.hid (Bool.and_eq_true_iff.1 hg).1
    have HM0 := Lib.hid (Bool.and_eq_true_iff.1 hg).2
    have HA0 := Lib.hid (Bool.and_eq_true_iff.1 hg0).1
    have HCS := Lib.hid hcs
    have HT := Lib.hid ht
    have HUB := Lib.hid (fun (k : Nat) (hk : k ≤ n) x => impl_UrnBack (r : Int) (by omega) (by omega) (b : Int) (by omega) (by omega) (n : Int) (by omega) (by omega) (k : Int) (by omega) (by omega) x)
    have HUG := Lib.hid (fun (k : Nat) (hk : k ≤ n) x => impl_UrnGrows (r : Int) (by omega) (by omega) (b : Int) (by omega) (by omega) (ee : Int) (by omega) (by omega) (n : Int) (by omega) (by omega) (k : Int) (by omega) (by omega) x)
    have HU0 := Lib.hid (fun (k : Nat) (hk : k ≤ n) x => impl_UrnGrows (r : Int) (by omega) (by omega) (b : Int) (by omega) (by omega) ((0 : Nat) : Int) (by omega) (by omega) (n : Int) (by omega) (by omega) (k : Int) (by omega) (by omega) x)
    have HUC := Lib.hid (fun (k : Nat) (hk : k ≤ n) x => impl_UrnChance (r : Int) (by omega) (by omega) (b : Int) (by omega) (by omega) (n : Int) (by omega) (by omega) (k : Int) (by omega) (by omega) x)
    have HBK := Lib.hid (fun k hk => back_is r b n k (by omega) hb1 hb2 hn hk)
    have HG1 := Lib.hid (fun k hk => grows_ok r b n k ee (by omega) hb1 hb2 hn hk he)
    have HG0 := Lib.hid (fun k hk => grows_ok r b n k 0 (by omega) hb1 hb2 hn hk (by omega))
    have HCk := Lib.hid (fun (k : Nat) (hk : k ≤ n) (h : n ≤ r + b) => show ok_UrnChance (r : Int) (b : Int) (n : Int) (k : Int) = true by unfold ok_UrnChance okUC; exact decide_eq_true (by omega))
    have HUM : Hid (1 ≤ r → (∀ x, Calls Try.prog 13 #[.int .i64 (r : Int), .int .i64 (b : Int)] x fun e w' => e = .returned (.tuple #[.int .i64 (res_UrnMean (r : Int) (b : Int)), .int .i64 (res2_UrnMean (r : Int) (b : Int)), .bool true]) ∧ Below x.heap.size x w') ∧ res_UrnMean (r : Int) (b : Int) * ((r : Int) + 1) = res2_UrnMean (r : Int) (b : Int) * ((r : Int) + (b : Int) + 1) ∧ 0 ≤ res_UrnMean (r : Int) (b : Int) ∧ res_UrnMean (r : Int) (b : Int) ≤ 1000 ∧ 0 ≤ res2_UrnMean (r : Int) (b : Int) ∧ res2_UrnMean (r : Int) (b : Int) ≤ 1000) := Lib.hid fun hr1 => by
      have t := um_tab (r - 1) (by omega) b0 hb0
      rw [show r - 1 + 1 = r by omega, ← hb] at t
      refine ⟨fun x => ?_, t⟩
      have c := impl_UrnMean (r : Int) (by omega) (by omega) (b : Int) (by omega) (by omega) x
      have k : ok_UrnMean (r : Int) (b : Int) = true := by unfold ok_UrnMean okUM; exact decide_eq_true (by omega)
      rw [k] at c
      exact c
    have rb0 : 0 ≤ (n : Int) * (r : Int) := Int.mul_nonneg (by omega) (by omega)
    have rb1 : (n : Int) * (r : Int) ≤ 6 * 11 := Int.mul_le_mul (by omega) (by omega) (by omega) (by omega)
    have d6 : decide (n ≤ 6) = true := decide_eq_true (by omega)
    have d6' : decide ((n : Int) ≤ 6) = true := decide_eq_true (by omega)
    clear hch ht hcs hg hg0 hb h h2 hl hl2 HA
    go_enter Try.func4, Try.ntmps4
    go_wp2_with fail
    refine HL.out.mono ?_
    rintro e w' ⟨rfl, rfl⟩
    go_wp2_with fail
    refine (H40.out _ (Below.refl _ _)).mono ?_
    rintro e w' ⟨rfl, rfl⟩
    go_wp2_with fail
    refine (H41.out _ (Below.refl _ _)).mono ?_
    rintro e w' ⟨rfl, rfl⟩
    go_wp2_with fail
    rw [Eb.out]
    refine (H42.out _ (Below.refl _ _)).mono ?_
    rintro e w' ⟨rfl, rfl⟩
    go_wp2_with fail
    refine (H43.out _ (Below.refl _ _)).mono ?_
    rintro e w' ⟨rfl, rfl⟩
    go_wp2_with fail
    go_loopw [9, 10, 11, 12, 13] (fun av bv cv mv kv wz => ∃ k A B C M : Nat, k ≤ n + 1 ∧ av = .float .f64 A ∧ bv = .float .f64 B ∧ cv = .float .f64 C ∧ mv = .float .f64 M ∧ kv = .int .i64 (k : Int) ∧ Hid (sumB (uN r b 0 n) (uD r b 0 n) (n + 1 - k) k A = true) ∧ Hid (sumB (uN r b ee n) (uD r b ee n) (n + 1 - k) k B = true) ∧ Hid (meanB (uN r b ee n) (uD r b ee n) (tgtF r b n) (n + 1 - k) k M = true) ∧ Hid (n ≤ r + b → sumB (cN r b n) (cD r b n) (n + 1 - k) k C = true) ∧ Hid (Below w.heap.size w wz)) (fun _ _ _ _ kv _ => n + 1 - (intOf kv).toNat)
    case atStart => exact ⟨0, 0, 0, 0, 0, Nat.zero_le _, rfl, rfl, rfl, rfl, rfl, HA0, HB0, HM0, Lib.hid (fun h => (HCS.out h).1), Lib.hid (Below.refl _ _)⟩
    case round =>
      obtain ⟨k, A, B, C, M, hk, rfl, rfl, rfl, rfl, rfl, hA, hB, hM, hC, hW⟩ := hrel
      have hwz := hW.out.size
      by_cases hlk : k ≤ n
      · have hA' := hA.out
        have hB' := hB.out
        have hM' := hM.out
        rw [show n + 1 - k = (n - k) + 1 by omega] at hA' hB' hM'
        obtain ⟨a1, a2, qa, A', a3, a4, a5⟩ := sumB_step hA'
        obtain ⟨b1, b2, qb, B', b3, b4, b5⟩ := sumB_step hB'
        obtain ⟨pm, qm, M', m1, m2, m3, m4⟩ := meanB_step hM'
        have HA5 : Hid (sumB (uN r b 0 n) (uD r b 0 n) (n + 1 - (k + 1)) (k + 1) A' = true) := Lib.hid (by rw [show n + 1 - (k + 1) = n - k by omega]; exact a5)
        have HB5 : Hid (sumB (uN r b ee n) (uD r b ee n) (n + 1 - (k + 1)) (k + 1) B' = true) := Lib.hid (by rw [show n + 1 - (k + 1) = n - k by omega]; exact b5)
        have HM5 : Hid (meanB (uN r b ee n) (uD r b ee n) (tgtF r b n) (n + 1 - (k + 1)) (k + 1) M' = true) := Lib.hid (by rw [show n + 1 - (k + 1) = n - k by omega]; exact m4)
        have r1 := run_ok (P := Try.prog) a3
        have r2 := run_ok (P := Try.prog) a4
        have r3 := run_ok (P := Try.prog) b3
        have r4 := run_ok (P := Try.prog) b4
        have r5 := run_ok (P := Try.prog) m1
        have r6 := run_ok (P := Try.prog) m2
        have r7 := run_ok (P := Try.prog) m3
        obtain ⟨k1, k2, k3⟩ := HBK.out k hlk
        have HX1 := Lib.hid (fun x => HUB.out k hlk x)
        rw [k1, k2, k3] at HX1
        have HX2 := Lib.hid (fun x => HUG.out k hlk x)
        rw [HG1.out k hlk] at HX2
        have e2 : res_UrnGrows (r : Int) (b : Int) (ee : Int) (n : Int) (k : Int) = uN r b ee n k := rfl
        have e3 : res2_UrnGrows (r : Int) (b : Int) (ee : Int) (n : Int) (k : Int) = uD r b ee n k := rfl
        rw [e2, e3] at HX2
        have HX3 := Lib.hid (fun x => HU0.out k hlk x)
        rw [HG0.out k hlk] at HX3
        have e4 : res_UrnGrows (r : Int) (b : Int) ((0 : Nat) : Int) (n : Int) (k : Int) = uN r b 0 n k := rfl
        have e5 : res2_UrnGrows (r : Int) (b : Int) ((0 : Nat) : Int) (n : Int) (k : Int) = uD r b 0 n k := rfl
        rw [e4, e5] at HX3
        have dk : decide (k ≤ n) = true := decide_eq_true hlk
        have dY : decide (uD r b 0 n k < 1) = false := decide_eq_false (by omega)
        have dX : decide (uN r b 0 n k < 0) = false := decide_eq_false (by omega)
        have dV : decide (uD r b ee n k < 1) = false := decide_eq_false (by omega)
        have nx : (uN r b 0 n k != uN r b 0 n k) = false := by simp
        have ny : (uD r b 0 n k != uD r b 0 n k) = false := by simp
        clear a3 a4 a5 b3 b4 b5 m1 m2 m3 m4 hA hB hM hA' hB' hM' k1 k2 k3 e2 e3 e4 e5 a1 a2 b1 b2
        have HX4 := Lib.hid (fun x => HUC.out k hlk x)
        have e6 : res_UrnChance (r : Int) (b : Int) (n : Int) (k : Int) = cN r b n k := rfl
        have e7 : res2_UrnChance (r : Int) (b : Int) (n : Int) (k : Int) = cD r b n k := rfl
        rw [e6, e7] at HX4
        clear e6 e7
        by_cases hrb : n ≤ r + b
        · rw [HCk.out k hlk hrb] at HX4
          have hC' := hC.out hrb
          rw [show n + 1 - k = (n - k) + 1 by omega] at hC'
          obtain ⟨c1, c2, qc, C', c3, c4, c5⟩ := sumB_step hC'
          have HC5 : Hid (n ≤ r + b → sumB (cN r b n) (cD r b n) (n + 1 - (k + 1)) (k + 1) C' = true) := Lib.hid (fun _ => by rw [show n + 1 - (k + 1) = n - k by omega]; exact c5)
          have r8 := run_ok (P := Try.prog) c3
          have r9 := run_ok (P := Try.prog) c4
          have hz9 := (HCS.out hrb).2 k (by omega)
          have drb : decide ((n : Int) ≤ (r : Int) + (b : Int)) = true := decide_eq_true (by omega)
          have dV2 : decide (cD r b n k < 1) = false := decide_eq_false (by omega)
          have dU2 : decide (cN r b n k < 0) = false := decide_eq_false (by omega)
          have Z9 := Lib.hid hz9
          clear c1 c2 c3 c4 c5 hC hC' hz9 HUB HUG HU0 HUC HBK HG1 HG0 HCk HA0 HB0 HM0
          generalize uN r b 0 n k = X at *
          generalize uD r b 0 n k = Y at *
          generalize uN r b ee n k = U at *
          generalize uD r b ee n k = V at *
          generalize cN r b n k = P at *
          generalize cD r b n k = Q at *
          go_wp2_with fail
          refine (HX1.out _).mono ?_
          rintro e w1 ⟨rfl, hx1⟩
          have W1 := Lib.hid (hW.out.trans (hx1.mono hwz))
          clear hx1
          go_wp2_with fail
          refine (HX2.out _).mono ?_
          rintro e w2 ⟨rfl, hx2⟩
          have W2 := Lib.hid (W1.out.trans (hx2.mono W1.out.size))
          clear hx2 W1
          go_wp2_with fail
          refine (HX3.out _).mono ?_
          rintro e w3 ⟨rfl, hx3⟩
          have W3 := Lib.hid (W2.out.trans (hx3.mono W2.out.size))
          clear hx3 W2
          by_cases hrk : r < k
          · have hP := Z9.out hrk
            subst hP
            have dg : decide (r < k) = true := decide_eq_true hrk
            go_wp2_with fail
            refine (HX4.out _).mono ?_
            rintro e w4 ⟨rfl, hx4⟩
            have W4 := Lib.hid (W3.out.trans (hx4.mono W3.out.size))
            clear hx4 W3
            go_wp2
            go_roundw
            case rel => exact ⟨k + 1, A', B', C', M', by omega, rfl, rfl, rfl, rfl, by go_num, HA5, HB5, HM5, HC5, W4⟩
            case measure => simp [intOf]; omega
          · have dg : decide (r < k) = false := decide_eq_false hrk
            go_wp2_with fail
            refine (HX4.out _).mono ?_
            rintro e w4 ⟨rfl, hx4⟩
            have W4 := Lib.hid (W3.out.trans (hx4.mono W3.out.size))
            clear hx4 W3
            go_wp2
            go_roundw
            case rel => exact ⟨k + 1, A', B', C', M', by omega, rfl, rfl, rfl, rfl, by go_num, HA5, HB5, HM5, HC5, W4⟩
            case measure => simp [intOf]; omega
        · have HC5 : Hid (n ≤ r + b → sumB (cN r b n) (cD r b n) (n + 1 - (k + 1)) (k + 1) C = true) := Lib.hid (fun h => absurd h hrb)
          have drb : decide ((n : Int) ≤ (r : Int) + (b : Int)) = false := decide_eq_false (by omega)
          clear hC HUB HUG HU0 HUC HBK HG1 HG0 HCk HA0 HB0 HM0 HX4
          generalize uN r b 0 n k = X at *
          generalize uD r b 0 n k = Y at *
          generalize uN r b ee n k = U at *
          generalize uD r b ee n k = V at *
          go_wp2_with fail
          refine (HX1.out _).mono ?_
          rintro e w1 ⟨rfl, hx1⟩
          have W1 := Lib.hid (hW.out.trans (hx1.mono hwz))
          clear hx1
          go_wp2_with fail
          refine (HX2.out _).mono ?_
          rintro e w2 ⟨rfl, hx2⟩
          have W2 := Lib.hid (W1.out.trans (hx2.mono W1.out.size))
          clear hx2 W1
          go_wp2_with fail
          refine (HX3.out _).mono ?_
          rintro e w3 ⟨rfl, hx3⟩
          have W3 := Lib.hid (W2.out.trans (hx3.mono W2.out.size))
          clear hx3 W2
          go_wp2
          go_roundw
          case rel => exact ⟨k + 1, A', B', C, M', by omega, rfl, rfl, rfl, rfl, by go_num, HA5, HB5, HM5, HC5, W3⟩
          case measure => simp [intOf]; omega
      · obtain rfl : k = n + 1 := by omega
        have hA' := hA.out
        have hB' := hB.out
        have hM' := hM.out
        rw [Nat.sub_self] at hA' hB' hM'
        obtain ⟨ga, ga1, ga2⟩ := gap8_any A oneF hA'
        obtain ⟨gb, gb1, gb2⟩ := gap8_any B oneF hB'
        obtain ⟨gm, gm1, gm2⟩ := gap8_any M (tgtF r b n) hM'
        have GA := Lib.hid ga2
        have GB := Lib.hid gb2
        have GM := Lib.hid gm2
        have rt := run_ok (P := Try.prog) HT.out
        have dk : decide (n + 1 ≤ n) = false := decide_eq_false (by omega)
        clear hA hB hM hA' hB' hM' ga2 gb2 gm2 HUB HUG HU0 HUC HBK HG1 HG0 HCk HA0 HB0 HM0
        generalize tgtF r b n = TG at *
        by_cases hrb : n ≤ r + b
        · have hC' := hC.out hrb
          rw [Nat.sub_self] at hC'
          obtain ⟨gc, gc1, gc2⟩ := gap8_any C oneF hC'
          have GC := Lib.hid gc2
          have drb : decide ((n : Int) ≤ (r : Int) + (b : Int)) = true := decide_eq_true (by omega)
          clear hC hC' gc2 HCS
          go_wp2_with fail
          refine (GA.out _).mono ?_
          rintro e w' ⟨rfl, rfl⟩
          go_wp2_with fail
          refine (GB.out _).mono ?_
          rintro e w' ⟨rfl, rfl⟩
          go_wp2_with fail
          refine (GM.out _).mono ?_
          rintro e w' ⟨rfl, rfl⟩
          go_wp2_with fail
          refine (GC.out _).mono ?_
          rintro e w' ⟨rfl, rfl⟩
          by_cases hr0 : 0 < r
          · obtain ⟨um, u1, u2, u3, u4, u5⟩ := HUM.out hr0
            have UM := Lib.hid um
            have dr : decide (0 < r) = true := decide_eq_true hr0
            have dr' : decide ((0 : Int) < (r : Int)) = true := decide_eq_true (by omega)
            generalize res_UrnMean (r : Int) (b : Int) = MX at *
            generalize res2_UrnMean (r : Int) (b : Int) = MY at *
            have v1 : 0 ≤ MX * ((r : Int) + 1) := Int.mul_nonneg u2 (by omega)
            have v2' : MX * ((r : Int) + 1) ≤ 1000 * 100 := Int.mul_le_mul u3 (by omega) (by omega) (by omega)
            have v3 : 0 ≤ MY * ((r : Int) + (b : Int) + 1) := Int.mul_nonneg u4 (by omega)
            have v4 : MY * ((r : Int) + (b : Int) + 1) ≤ 1000 * 100 := Int.mul_le_mul u5 (by omega) (by omega) (by omega)
            have nm : (MX * ((r : Int) + 1) != MY * ((r : Int) + (b : Int) + 1)) = false := by rw [u1]; simp
            have nm2 : (MX * ((r : Int) + 1) = MY * ((r : Int) + (b : Int) + 1)) = True := eq_true u1
            have U1 := Lib.hid u1
            clear u1 um
            go_wp2_with fail
            refine (UM.out _).mono ?_
            rintro e w5 ⟨rfl, hx5⟩
            have W5 := Lib.hid (hW.out.trans (hx5.mono hwz))
            clear hx5
            go_upto_region 36 with fail
            exact stageC v v2 o z0 w _ _ _ _ _ _ _ _ _ _ _ _ _ _ _ _ _ _ _ _ _ _ _ _ _ _ _ _ _ _ _ _ _ _ _ _ _ _ _ _ _ _ _ _ _ _ _ _ _ _ _ _ _ _ _ _ _ _ _ _ _ _ _ _ _ _ _ _ _ _ _ _ _ _ _ _ _ _ _ _ _ _ _ _ _ _ _ _ _ _ _ _ _ _ _ _ _ _ _ _ _ _ _ _ _ _ _ _ _ _ _ _ _ _ _ _ _ _ _ _ _ _ _ _ _ _ _ _ _ _ _ _ _ _ _ _ _ _ _ _ _ _ _ _ _ _ _ _ _ _ _ _ _ _ _ _ _ _ _ _ _ _ _ _ _ _ _ _ _ _ _ _ _ _ _ _ _ _ _ _ _ _ _ _ _ _ _ _ _ _ _ _ _ _ _ _ _ _ _ _ _ _ _ _ _ _ _ _ _ _ _ _ _ _ _ _ _ _ _ _ _ _ _ _ _ _ _ _ _ _ _ _ _ _ _ _ _ _ _ _ _ _ _ _ _ _ _ _ _ _ _ _ _ _ _ _ _ _ _ _ _ _ _ _ _ _ _ _ _ _ _ _ _ _ _ _ _ _ _ _ _ _ _ _ _ _ _ _ _ _ _ _ _ _ _ _ _ _ _ _ _ _ _ _ _ _ _ _ _ _ _ _ _ _ _ _ _ _ _ _ _ _ _ _ _ _ _ _ _ _ _ _ _ _ _ _ _ _ _ _ _ _ _ _ _ _ _ _ _ _ _ _ _ (by assumption) W5.out ho hz0 H44 H45
          · have dr : decide (0 < r) = false := decide_eq_false hr0
            have dr' : decide ((0 : Int) < (r : Int)) = false := decide_eq_false (by omega)
            go_upto_region 36 with fail
            exact stageC v v2 o z0 w _ _ _ _ _ _ _ _ _ _ _ _ _ _ _ _ _ _ _ _ _ _ _ _ _ _ _ _ _ _ _ _ _ _ _ _ _ _ _ _ _ _ _ _ _ _ _ _ _ _ _ _ _ _ _ _ _ _ _ _ _ _ _ _ _ _ _ _ _ _ _ _ _ _ _ _ _ _ _ _ _ _ _ _ _ _ _ _ _ _ _ _ _ _ _ _ _ _ _ _ _ _ _ _ _ _ _ _ _ _ _ _ _ _ _ _ _ _ _ _ _ _ _ _ _ _ _ _ _ _ _ _ _ _ _ _ _ _ _ _ _ _ _ _ _ _ _ _ _ _ _ _ _ _ _ _ _ _ _ _ _ _ _ _ _ _ _ _ _ _ _ _ _ _ _ _ _ _ _ _ _ _ _ _ _ _ _ _ _ _ _ _ _ _ _ _ _ _ _ _ _ _ _ _ _ _ _ _ _ _ _ _ _ _ _ _ _ _ _ _ _ _ _ _ _ _ _ _ _ _ _ _ _ _ _ _ _ _ _ _ _ _ _ _ _ _ _ _ _ _ _ _ _ _ _ _ _ _ _ _ _ _ _ _ _ _ _ _ _ _ _ _ _ _ _ _ _ _ _ _ _ _ _ _ _ _ _ _ _ _ _ _ _ _ _ _ _ _ _ _ _ _ _ _ _ _ _ _ _ _ _ _ _ _ _ _ _ _ _ _ _ _ _ _ _ _ _ _ _ _ _ _ _ _ _ _ _ _ _ _ _ _ _ _ _ _ _ _ _ _ _ _ _ (by assumption) hW.out ho hz0 H44 H45
        · have drb : decide ((n : Int) ≤ (r : Int) + (b : Int)) = false := decide_eq_false (by omega)
          clear hC HCS
          go_wp2_with fail
          refine (GA.out _).mono ?_
          rintro e w' ⟨rfl, rfl⟩
          go_wp2_with fail
          refine (GB.out _).mono ?_
          rintro e w' ⟨rfl, rfl⟩
          go_wp2_with fail
          refine (GM.out _).mono ?_
          rintro e w' ⟨rfl, rfl⟩
          by_cases hr0 : 0 < r
          · obtain ⟨um, u1, u2, u3, u4, u5⟩ := HUM.out hr0
            have UM := Lib.hid um
            have dr : decide (0 < r) = true := decide_eq_true hr0
            have dr' : decide ((0 : Int) < (r : Int)) = true := decide_eq_true (by omega)
            generalize res_UrnMean (r : Int) (b : Int) = MX at *
            generalize res2_UrnMean (r : Int) (b : Int) = MY at *
            have v1 : 0 ≤ MX * ((r : Int) + 1) := Int.mul_nonneg u2 (by omega)
            have v2' : MX * ((r : Int) + 1) ≤ 1000 * 100 := Int.mul_le_mul u3 (by omega) (by omega) (by omega)
            have v3 : 0 ≤ MY * ((r : Int) + (b : Int) + 1) := Int.mul_nonneg u4 (by omega)
            have v4 : MY * ((r : Int) + (b : Int) + 1) ≤ 1000 * 100 := Int.mul_le_mul u5 (by omega) (by omega) (by omega)
            have nm : (MX * ((r : Int) + 1) != MY * ((r : Int) + (b : Int) + 1)) = false := by rw [u1]; simp
            have nm2 : (MX * ((r : Int) + 1) = MY * ((r : Int) + (b : Int) + 1)) = True := eq_true u1
            have U1 := Lib.hid u1
            clear u1 um
            go_wp2_with fail
            refine (UM.out _).mono ?_
            rintro e w5 ⟨rfl, hx5⟩
            have W5 := Lib.hid (hW.out.trans (hx5.mono hwz))
            clear hx5
            go_upto_region 36 with fail
            exact stageC v v2 o z0 w _ _ _ _ _ _ _ _ _ _ _ _ _ _ _ _ _ _ _ _ _ _ _ _ _ _ _ _ _ _ _ _ _ _ _ _ _ _ _ _ _ _ _ _ _ _ _ _ _ _ _ _ _ _ _ _ _ _ _ _ _ _ _ _ _ _ _ _ _ _ _ _ _ _ _ _ _ _ _ _ _ _ _ _ _ _ _ _ _ _ _ _ _ _ _ _ _ _ _ _ _ _ _ _ _ _ _ _ _ _ _ _ _ _ _ _ _ _ _ _ _ _ _ _ _ _ _ _ _ _ _ _ _ _ _ _ _ _ _ _ _ _ _ _ _ _ _ _ _ _ _ _ _ _ _ _ _ _ _ _ _ _ _ _ _ _ _ _ _ _ _ _ _ _ _ _ _ _ _ _ _ _ _ _ _ _ _ _ _ _ _ _ _ _ _ _ _ _ _ _ _ _ _ _ _ _ _ _ _ _ _ _ _ _ _ _ _ _ _ _ _ _ _ _ _ _ _ _ _ _ _ _ _ _ _ _ _ _ _ _ _ _ _ _ _ _ _ _ _ _ _ _ _ _ _ _ _ _ _ _ _ _ _ _ _ _ _ _ _ _ _ _ _ _ _ _ _ _ _ _ _ _ _ _ _ _ _ _ _ _ _ _ _ _ _ _ _ _ _ _ _ _ _ _ _ _ _ _ _ _ _ _ _ _ _ _ _ _ _ _ _ _ _ _ _ _ _ _ _ _ _ _ _ _ _ _ _ _ _ _ _ _ _ _ _ _ _ _ _ _ _ _ _ (by assumption) W5.out ho hz0 H44 H45
          · have dr : decide (0 < r) = false := decide_eq_false hr0
            have dr' : decide ((0 : Int) < (r : Int)) = false := decide_eq_false (by omega)
            go_upto_region 36 with fail
            exact stageC v v2 o z0 w _ _ _ _ _ _ _ _ _ _ _ _ _ _ _ _ _ _ _ _ _ _ _ _ _ _ _ _ _ _ _ _ _ _ _ _ _ _ _ _ _ _ _ _ _ _ _ _ _ _ _ _ _ _ _ _ _ _ _ _ _ _ _ _ _ _ _ _ _ _ _ _ _ _ _ _ _ _ _ _ _ _ _ _ _ _ _ _ _ _ _ _ _ _ _ _ _ _ _ _ _ _ _ _ _ _ _ _ _ _ _ _ _ _ _ _ _ _ _ _ _ _ _ _ _ _ _ _ _ _ _ _ _ _ _ _ _ _ _ _ _ _ _ _ _ _ _ _ _ _ _ _ _ _ _ _ _ _ _ _ _ _ _ _ _ _ _ _ _ _ _ _ _ _ _ _ _ _ _ _ _ _ _ _ _ _ _ _ _ _ _ _ _ _ _ _ _ _ _ _ _ _ _ _ _ _ _ _ _ _ _ _ _ _ _ _ _ _ _ _ _ _ _ _ _ _ _ _ _ _ _ _ _ _ _ _ _ _ _ _ _ _ _ _ _ _ _ _ _ _ _ _ _ _ _ _ _ _ _ _ _ _ _ _ _ _ _ _ _ _ _ _ _ _ _ _ _ _ _ _ _ _ _ _ _ _ _ _ _ _ _ _ _ _ _ _ _ _ _ _ _ _ _ _ _ _ _ _ _ _ _ _ _ _ _ _ _ _ _ _ _ _ _ _ _ _ _ _ _ _ _ _ _ _ _ _ _ _ _ _ _ _ _ _ _ _ _ _ _ _ _ _ _ (by assumption) hW.out ho hz0 H44 H45
end Go.Proofs.Ytfihnnhgegdjkaa
