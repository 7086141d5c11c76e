/- The law of counts: its walk. -/
import Derived.Test.YtolmhnekfokpdacFnd
import Derived.Deep.DeepCutAuto
import Derived.Deep.CutBlock
set_option linter.unusedVariables false
namespace Go.Proofs.Ytolmhnekfokpdac
open Go.RowKit
attribute [local go_sem] Oper.semAt_some

theorem pw2I_step (t i : Nat) (ht : t < 5) (hi : i < 8) : RowKit.wrap64 (pw2I (t * i) * 2 ^ t) = pw2I (t * (i + 1)) := (IntWalk.i64_left _).symm.trans (pow_all t ht i hi)
theorem pw2I_bd (t i : Nat) (ht : t < 5) (hi : i < 8) : 1 ≤ pw2I (t * i) ∧ pw2I (t * i) ≤ 1000000000 := (by decide +kernel : ∀ t, t < 5 → ∀ i, i < 8 → 1 ≤ pw2I (t * i) ∧ pw2I (t * i) ≤ 1000000000) t ht i hi
theorem fctM_all : ∀ j, j < 9 → ((fct j : Nat) : Int) * ((j : Int) + 1) = ((fct (j + 1) : Nat) : Int) := by decide +kernel
theorem fctM_bd : ∀ j, j < 9 → 1 ≤ ((fct j : Nat) : Int) ∧ ((fct j : Nat) : Int) ≤ 1000000 ∧ 0 ≤ ((fct j : Nat) : Int) * ((j : Int) + 1) ∧ ((fct j : Nat) : Int) * ((j : Int) + 1) ≤ 10000000 := by decide +kernel
set_option maxRecDepth 1000000 in
set_option maxHeartbeats 8000000 in
theorem walk_FnCounted (fs gs : List Int) (v v2 : Value) (w : World) (hl : fs.length ≤ maxLen) (hl2 : gs.length ≤ maxLen) (hbs : BsB gs) (h : Sl (Value.int .u8) 0 w v fs) (h2 : Sl (Value.int .u8) 0 w v2 gs) :
    Calls Try.prog 6 #[v, v2] w fun e w' => e = .returned (.bool true) ∧ Below w.heap.size w w' := by
  have HL := Lib.hid (long_any fs gs v v2 w hl hl2 h h2)
  by_cases hlong : (decide (48 < fs.length) || decide (48 < gs.length)) = true
  · rw [hlong] at HL
    clear hlong h h2
    go_enter Try.func6, Try.ntmps6
    go_wp2_with (first | (go_at_call 22; refine HL.out.mono ?_; rintro e w' ⟨rfl, rfl⟩))
    go_ret
    exact ⟨rfl, Below.refl _ _⟩
  · rw [Bool.not_eq_true] at hlong
    rw [hlong] at HL
    clear hlong h
    have HA := Lib.hid (fun (z : World) (hz : Below w.heap.size w z) (k n : Nat) (hn : 1 ≤ n) (hn2 : n ≤ 1000000) (hk : k ≤ 1000) => at_any gs v2 k n z hn hn2 hk hl2 hbs (h2.later hz))
    obtain ⟨n, hn⟩ : ∃ n, n = r8V gs 40 8 + 1 := ⟨_, rfl⟩
    obtain ⟨t, ht⟩ : ∃ t, t = r8V gs 41 4 + 1 := ⟨_, rfl⟩
    have n8 := r8V_lt gs 40 8 (by omega)
    have t4 := r8V_lt gs 41 4 (by omega)
    have hn1 : 1 ≤ n := by omega
    have hn9 : n < 9 := by omega
    have ht1 : 1 ≤ t := by omega
    have ht5 : t < 5 := by omega
    have en : (1 : Int) + ((r8V gs 40 8 : Nat) : Int) = (n : Int) := by omega
    have et : (1 : Int) + ((r8V gs 41 4 : Nat) : Int) = (t : Int) := by omega
    have EN := Lib.hid en
    have ET := Lib.hid et
    obtain ⟨a1, a2, a3, a4, a5, a6, a7, a8, a9, a10, a11, a12, a13, a14, a15⟩ := cnt_facts n t hn9 hn1 ht5 ht1
    have H1 := Lib.hid (fun z => impl_DescentCounts (n : Int) (by omega) (by omega) z)
    have H2 := Lib.hid (fun z => impl_MatchCounts (n : Int) (by omega) (by omega) z)
    have H3 := Lib.hid (fun z => impl_FarFromEven (n : Int) (by omega) (by omega) (t : Int) (by omega) (by omega) z)
    rw [a1] at H1
    rw [a2] at H2
    rw [a3] at H3
    have A4 := Lib.hid a4
    have A5 := Lib.hid a5
    have A11 := Lib.hid a11
    have A12 := Lib.hid a12
    have A13 := Lib.hid a13
    have A14 := Lib.hid a14
    have A15 := Lib.hid a15
    have HR1 := Lib.hid (rfl : res_DescentCounts (n : Int) = res_DescentCounts (n : Int))
    obtain ⟨P, hP⟩ : ∃ P, P = res_FarFromEven (n : Int) (t : Int) := ⟨_, rfl⟩
    obtain ⟨Q, hQ⟩ : ∃ Q, Q = res2_FarFromEven (n : Int) (t : Int) := ⟨_, rfl⟩
    rw [← hP, ← hQ] at H3
    rw [← hP] at a7 a8 a9
    rw [← hQ] at a6 a8 a10
    have HP := Lib.hid hP
    have HQ := Lib.hid hQ
    clear a1 a2 a3 a4 a5 a11 a12 a13 a14 a15 hn ht en et hP hQ n8 t4 h2
    have HA40 := Lib.hid (fun z hz => HA.out z hz 40 8 (by omega) (by omega) (by omega))
    have HA41 := Lib.hid (fun z hz => HA.out z hz 41 4 (by omega) (by omega) (by omega))
    have x8 := r8V_lt gs 40 8 (by omega)
    have x4 := r8V_lt gs 41 4 (by omega)
    generalize r8V gs 40 8 = x40 at *
    generalize r8V gs 41 4 = x41 at *
    go_enter Try.func6, Try.ntmps6
    go_wp2_with fail
    refine HL.out.mono ?_
    rintro e w' ⟨rfl, rfl⟩
    go_wp2_with fail
    refine (HA40.out _ (Below.refl _ _)).mono ?_
    rintro e w' ⟨rfl, rfl⟩
    go_wp2_with fail
    rw [EN.out]
    refine (HA41.out _ (Below.refl _ _)).mono ?_
    rintro e w' ⟨rfl, rfl⟩
    go_wp2_with fail
    rw [ET.out]
    refine (H1.out _).mono ?_
    rintro e w1 ⟨r1, rfl, hr1, hb1⟩
    obtain ⟨p1, cap1, rfl, hc1⟩ := hr1
    rw [A4.out] at hc1
    rw [A4.out]
    have Hc1 := Lib.hid hc1
    clear hc1
    go_wp2_with fail
    refine (H2.out _).mono ?_
    rintro e w2 ⟨r2, rfl, hr2, hb2⟩
    obtain ⟨p2, cap2, rfl, hc2⟩ := hr2
    rw [A5.out] at hc2
    rw [A5.out]
    have Hc2 := Lib.hid hc2
    clear hc2
    go_wp2_with fail
    refine (H3.out _).mono ?_
    rintro e w3 ⟨rfl, hb3⟩
    have hb4 : Below w.heap.size w w3 := (hb1.trans (hb2.mono hb1.size)).trans (hb3.mono (Nat.le_trans hb1.size hb2.size))
    have Hb4 := Lib.hid hb4
    have Hb23 := Lib.hid hb3
    have Hb13 := Lib.hid (hb2.trans (hb3.mono hb2.size))
    have hz4 := hb4.size
    go_upto_region 8 with fail
    go_cut [119] (fun s119 wx => s119 = .bool false ∧ wx = w3)
    case first =>
      by_cases e1 : n = 1
      · obtain rfl := a9 e1
        subst e1
        go_wp2_with fail
        go_meet
        exact ⟨by congr 1; simp; omega, rfl⟩
      · have e2 : ((n : Int) == 1) = false := by rw [beq_eq_false_iff_ne]; omega
        go_wp2_with fail
        go_meet
        exact ⟨by congr 1; simp; omega, rfl⟩
    case rest =>
      obtain ⟨rfl, rfl⟩ := hcut
      clear hb1 hb2 hb3 hb4 HL HA40 HA41 H1 H2
      go_wp2_with fail
      go_loopw [14, 15] (fun a i wr => ∃ j : Nat, 1 ≤ j ∧ j ≤ n ∧ i = .int .i64 ((j : Int) + 1) ∧ a = .int .i64 ((fct j : Nat) : Int) ∧ wc = wr) (fun _ i _ => n + 2 - (intOf i).toNat)
      case atStart => exact ⟨1, by omega, hn1, rfl, rfl, rfl⟩
      case round =>
        obtain ⟨j, hj1, hj2, rfl, rfl, rfl⟩ := hrel
        by_cases hlt : j + 1 ≤ n
        · have hm := Lib.hid (fctM_all j (by omega))
          have hm0 := (fctM_bd j (by omega))
          generalize ((fct j : Nat) : Int) = f at *
          go_wp2
          go_roundw
          case rel => exact ⟨j + 1, by omega, by omega, by go_num, by rw [hm.out], trivial⟩
          case measure => simp [intOf]; omega
        · obtain rfl : n = j := by omega
          go_wp2_with fail
          go_loopw [16, 17] (fun a i wr => ∃ j : Nat, j ≤ n ∧ i = .int .i64 (j : Int) ∧ a = .int .i64 (pw2I (t * j)) ∧ wc = wr) (fun _ i _ => n - (intOf i).toNat)
          case atStart => exact ⟨0, by omega, rfl, rfl, rfl⟩
          case round =>
            obtain ⟨i, hi1, rfl, rfl, rfl⟩ := hrel
            by_cases hli : i < n
            · have hm := Lib.hid (pw2I_step t i (by omega) (by omega))
              have hm0 := pw2I_bd t i (by omega) (by omega)
              generalize pw2I (t * i) = f at *
              go_wp2
              go_roundw
              case rel => exact ⟨i + 1, by omega, by go_num, by rw [hm.out], trivial⟩
              case measure => simp [intOf]; omega
            · obtain rfl : n = i := by omega
              obtain ⟨hcap1, b1, o1, rfl, -, hb1, -, hc1⟩ := Hc1.out (by omega)
              obtain ⟨hcap2, b2, o2, rfl, -, hb2, -, hc2⟩ := Hc2.out (by omega)
              have HC1 : Hid (∀ i, i < n → wc.cell? ⟨b1, o1 + i, none⟩ = some (.int .i64 ((res_DescentCounts (n : Int)).getD i 0))) := Lib.hid (fun i hi => (Hb13.out.cell (p := ⟨b1, o1 + i, none⟩) hb1).trans (hc1 i hi).1)
              have HC2 : Hid (∀ i, i < n + 1 → wc.cell? ⟨b2, o2 + i, none⟩ = some (.int .i64 ((res_MatchCounts (n : Int)).getD i 0))) := Lib.hid (fun i hi => (Hb23.out.cell (p := ⟨b2, o2 + i, none⟩) hb2).trans (hc2 i hi).1)
              have hb1' := Nat.lt_of_lt_of_le hb1 Hb13.out.size
              have hb2' := Nat.lt_of_lt_of_le hb2 Hb23.out.size
              clear hc1 hc2 Hc1 Hc2
              have HA' := HA.out
              rw [HP.out, HQ.out]
              go_upto_region 20 with fail
              exact stageB gs v v2 n t b1 o1 cap1 b2 o2 cap2 w _ _ _ _ _ _ _ _ _ _ _ _ _ _ _ _ _ _ _ _ _ _ _ _ _ _ _ _ _ _ _ _ _ _ _ _ _ _ _ _ _ _ _ _ _ _ _ _ _ _ _ _ _ _ _ _ _ _ _ _ _ _ _ _ _ _ _ _ _ _ _ _ _ _ _ _ _ _ _ _ _ _ _ _ _ _ _ _ _ _ _ _ _ _ _ _ _ _ _ _ _ _ _ _ _ _ _ _ _ _ _ _ _ _ _ _ _ _ _ _ _ _ _ _ _ _ _ _ _ _ _ _ _ _ _ _ _ _ _ _ _ _ _ _ _ _ _ _ _ _ _ _ _ _ _ _ _ _ _ _ _ _ _ _ _ _ _ _ _ _ _ _ _ _ _ _ _ _ _ _ _ _ _ _ _ _ _ _ _ _ _ _ _ _ _ _ _ _ _ _ _ _ _ _ _ _ _ _ _ _ _ _ _ _ _ _ _ _ _ _ _ _ _ _ _ _ _ _ _ _ _ _ _ _ _ _ _ _ _ _ _ _ _ _ _ _ _ _ _ _ _ _ _ _ _ _ _ _ _ _ _ _ _ _ _ _ _ _ _ _ _ _ _ _ _ _ _ _ _ _ _ _ _ _ _ _ _ _ _ _ _ _ _ _ _ _ _ _ _ _ _ _ _ _ _ _ _ _ _ _ _ _ _ _ _ _ _ _ _ _ _ _ _ _ _ _ _ _ _ _ _ _ _ _ _ _ _ _ _ _ _ _ _ _ _ _ _ _ _ _ _ _ _ _ _ _ _ _ _ _ _ _ _ _ _ _ _ _ _ _ _ _ _ _ _ _ _ _ _ _ _ _ _ _ _ _ _ _ _ _ _ _ _ _ _ _ _ _ _ _ _ _ _ _ _ _ _ _ _ _ _ (by assumption) (Lib.hid HA') Hb4.out hn1 hn9 ht1 ht5 hb1' hcap1 HC1 hb2' hcap2 HC2
end Go.Proofs.Ytolmhnekfokpdac
