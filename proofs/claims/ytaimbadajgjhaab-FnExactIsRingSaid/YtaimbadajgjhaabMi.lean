/- Contracts: Beats, the model. -/
import Derived.Test.YtaimbadajgjhaabMh
set_option linter.unusedVariables false
namespace Go.Proofs.Ytaimbadajgjhaab
open Go.RowKit

set_option maxRecDepth 100000 in
set_option maxHeartbeats 4000000 in
theorem beatsS_any (fs gs : List Int) (v u : Value) (w : World) (hn : fs.length ≤ 12) (hm : gs.length ≤ 12) (h : Sl (Value.int .i64) 0 w v fs) (g : Sl (Value.int .i64) 0 w u gs) :
    Calls Try.prog 62 #[v, u] w fun e w' => e = .returned (.tuple #[.int .i64 ((beatN fs gs fs.length : Nat) : Int), .int .i64 ((lessN fs gs fs.length : Nat) : Int), .int .i64 (((fs.length * gs.length : Nat) : Int) - ((beatN fs gs fs.length : Nat) : Int) - ((lessN fs gs fs.length : Nat) : Int))]) ∧ Drawn w w' := by
  obtain ⟨p, cap, rfl, hf⟩ := h
  obtain ⟨q, cap', rfl, hg⟩ := g
  have Hf := Lib.hid hf
  have Hg := Lib.hid hg
  clear hf hg
  have B1 := Lib.hid (beatN_le fs gs hm)
  have B2 := Lib.hid (lessN_le fs gs hm)
  have C1 := Lib.hid (fun x j => cntP_le (fun y => decide (y < x)) gs j)
  have C2 := Lib.hid (fun x j => cntP_le (fun y => decide (x < y)) gs j)
  have S1 := Lib.hid (fun k => show beatN fs gs (k + 1) = beatN fs gs k + cntP (fun y => decide (y < fs.getD k 0)) gs gs.length from rfl)
  have S2 := Lib.hid (fun k => show lessN fs gs (k + 1) = lessN fs gs k + cntP (fun y => decide (fs.getD k 0 < y)) gs gs.length from rfl)
  have T1 := Lib.hid (fun x j => show cntP (fun y => decide (y < x)) gs (j + 1) = cntP (fun y => decide (y < x)) gs j + (if decide (gs.getD j 0 < x) = true then 1 else 0) from rfl)
  have T2 := Lib.hid (fun x j => show cntP (fun y => decide (x < y)) gs (j + 1) = cntP (fun y => decide (x < y)) gs j + (if decide (x < gs.getD j 0) = true then 1 else 0) from rfl)
  have z1 : beatN fs gs 0 = 0 := rfl
  have z2 : lessN fs gs 0 = 0 := rfl
  obtain ⟨n, hn1⟩ : ∃ n, n = fs.length := ⟨_, rfl⟩
  obtain ⟨m, hm1⟩ : ∃ n, n = gs.length := ⟨_, rfl⟩
  rw [← hn1] at hn Hf
  rw [← hn1]
  rw [← hm1] at hm Hg S1 S2
  rw [← hm1]
  clear hn1 hm1
  go_enter Try.func62, Try.ntmps62
  go_wp2
  go_loopw [7, 8, 9, 14] (fun a b c i wr => ∃ k P : Nat, k ≤ n ∧ i = .int .i64 (k : Int) ∧ Hid (P = k * m) ∧ P ≤ 144 ∧ a = .int .i64 ((beatN fs gs k : Nat) : Int) ∧ b = .int .i64 ((lessN fs gs k : Nat) : Int) ∧ c = .int .i64 ((P : Int) - ((beatN fs gs k : Nat) : Int) - ((lessN fs gs k : Nat) : Int)) ∧ Drawn w wr) (fun _ _ _ i _ => n - (intOf i).toNat)
  case atStart => exact ⟨0, 0, Nat.zero_le _, rfl, Lib.hid (Nat.zero_mul _).symm, by omega, by rw [z1]; rfl, by rw [z2]; rfl, by rw [z1, z2]; rfl, Drawn.refl _⟩
  case round =>
    obtain ⟨k, P, hk, rfl, hP, hP1, rfl, rfl, rfl, hw⟩ := hrel
    have b1 := B1.out k
    have b2 := B2.out k
    have s1 := S1.out k
    have s2 := S2.out k
    have c1m := C1.out (fs.getD k 0) m
    have c2m := C2.out (fs.getD k 0) m
    by_cases hlt : k < n
    · obtain ⟨hcap, b, off, rfl, hbs, hcell⟩ := Hf.out (by omega)
      have Hc := Lib.hid (hcell k hlt)
      clear hcell
      have Hw := Lib.hid hw
      clear hw
      have HP2 := Lib.hid (show P + m = (k + 1) * m by rw [Nat.succ_mul, hP.out])
      have hP2 : P + m ≤ 144 := by rw [HP2.out]; exact Nat.mul_le_mul (by omega : k + 1 ≤ 12) hm
      have C1x := Lib.hid (C1.out (fs.getD k 0))
      have C2x := Lib.hid (C2.out (fs.getD k 0))
      have T1x := Lib.hid (T1.out (fs.getD k 0))
      have T2x := Lib.hid (T2.out (fs.getD k 0))
      have S1x := Lib.hid s1
      have S2x := Lib.hid s2
      clear s1 s2 c1m c2m
      generalize fs.getD k 0 = x at *
      generalize beatN fs gs k = X at *
      generalize lessN fs gs k = Y at *
      obtain ⟨wo, rfl⟩ : ∃ z, z = wr := ⟨_, rfl⟩
      go_wp2
      go_loopw [7, 8, 9, 19] (fun a b c i wi => ∃ j : Nat, j ≤ m ∧ i = .int .i64 (j : Int) ∧ a = .int .i64 ((X + cntP (fun y => decide (y < x)) gs j : Nat) : Int) ∧ b = .int .i64 ((Y + cntP (fun y => decide (x < y)) gs j : Nat) : Int) ∧ c = .int .i64 (((P + j : Nat) : Int) - ((X + cntP (fun y => decide (y < x)) gs j : Nat) : Int) - ((Y + cntP (fun y => decide (x < y)) gs j : Nat) : Int)) ∧ Drawn wo wi) (fun _ _ _ i _ => m - (intOf i).toNat)
      case atStart => exact ⟨0, Nat.zero_le _, rfl, rfl, rfl, rfl, Drawn.refl _⟩
      case round =>
        obtain ⟨j, hj, rfl, rfl, rfl, rfl, hwi⟩ := hrel
        have d1 := C1x.out j
        have d2 := C2x.out j
        have t1 := T1x.out j
        have t2 := T2x.out j
        by_cases hlj : j < m
        · obtain ⟨hcap', b', off', rfl, hbs', hcell'⟩ := Hg.out (by omega)
          have e1 := ((Hw.out.trans hwi).cell _).trans Hc.out
          have e2 := ((Hw.out.trans hwi).cell _).trans (hcell' j hlj)
          clear hcell'
          generalize gs.getD j 0 = y at *
          generalize hA : cntP (fun y => decide (y < x)) gs j = A at *
          generalize hB : cntP (fun y => decide (x < y)) gs j = B at *
          generalize hA2 : cntP (fun y => decide (y < x)) gs (j + 1) = A2 at *
          generalize hB2 : cntP (fun y => decide (x < y)) gs (j + 1) = B2 at *
          have HA2 := Lib.hid hA2
          have HB2 := Lib.hid hB2
          clear hA hB hA2 hB2
          by_cases hgt : y < x
          · rw [decide_eq_true hgt, if_pos rfl] at t1
            rw [decide_eq_false (show ¬ x < y by omega), if_neg Bool.false_ne_true] at t2
            have T1' := Lib.hid t1
            have T2' := Lib.hid t2
            clear t1 t2
            go_wp2
            go_region
            all_goals
              go_wp2
              go_roundw
              case rel => exact ⟨j + 1, by omega, by go_num, by rw [HA2.out, T1'.out]; go_num, by rw [HB2.out, T2'.out]; go_num, by rw [HA2.out, HB2.out, T1'.out, T2'.out]; congr 1; omega, hwi.more _⟩
              case measure => simp [intOf]; omega
          · by_cases hlt2 : x < y
            · rw [decide_eq_true hlt2, if_pos rfl] at t2
              rw [decide_eq_false hgt, if_neg Bool.false_ne_true] at t1
              have T1' := Lib.hid t1
              have T2' := Lib.hid t2
              clear t1 t2
              go_wp2
              go_region
              all_goals
                go_wp2
                go_region
                all_goals
                  go_wp2
                  go_roundw
                  case rel => exact ⟨j + 1, by omega, by go_num, by rw [HA2.out, T1'.out]; go_num, by rw [HB2.out, T2'.out]; go_num, by rw [HA2.out, HB2.out, T1'.out, T2'.out]; congr 1; omega, (hwi.more _).more _⟩
                  case measure => simp [intOf]; omega
            · rw [decide_eq_false hlt2, if_neg Bool.false_ne_true] at t2
              rw [decide_eq_false hgt, if_neg Bool.false_ne_true] at t1
              have T1' := Lib.hid t1
              have T2' := Lib.hid t2
              obtain rfl : y = x := by omega
              clear t1 t2
              go_wp2
              go_region
              all_goals
                go_wp2
                go_region
                all_goals
                  go_wp2
                  go_roundw
                  case rel => exact ⟨j + 1, by omega, by go_num, by rw [HA2.out, T1'.out]; go_num, by rw [HB2.out, T2'.out]; go_num, by rw [HA2.out, HB2.out, T1'.out, T2'.out]; congr 1; omega, (hwi.more _).more _⟩
                  case measure => simp [intOf]; omega
        · obtain rfl : j = m := by omega
          have hWW := Hw.out.trans hwi
          have E1 := Lib.hid S1x.out
          go_wp2
          go_roundw
          case rel => exact ⟨k + 1, P + j, by omega, by go_num, HP2, hP2, by rw [S1x.out], by rw [S2x.out], by rw [S1x.out, S2x.out], hWW⟩
          case measure => simp [intOf]; omega
    · obtain rfl : k = n := by omega
      have hP' := hP.out
      subst hP'
      go_wp2
      go_ret3
      exact ⟨rfl, hw⟩
end Go.Proofs.Ytaimbadajgjhaab
