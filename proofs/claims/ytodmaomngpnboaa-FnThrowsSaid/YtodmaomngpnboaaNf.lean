/- Contracts: games of throws, the model; even throws, the program. -/
import Derived.Test.YtodmaomngpnboaaNe
set_option linter.unusedVariables false
namespace Go.Proofs.Ytodmaomngpnboaa
open Go.RowKit

set_option maxRecDepth 100000 in
set_option maxHeartbeats 4000000 in
theorem throwsS_any (fs : List Int) (v : Value) (w : World) (hn : fs.length ≤ 1048576) (h : Sl (Value.int .i64) 0 w v fs) :
    Calls Try.prog 67 #[v] w fun e w' => e = .returned (.int .i64 ((if oppB fs (thrN fs.length) = true then thrN fs.length else 0 : Nat) : Int)) ∧ Drawn w w' := by
  obtain ⟨p, cap, rfl, hf⟩ := h
  have Hf := Lib.hid hf
  clear hf
  have Hsq := Lib.hid (thrN_sq fs.length)
  have hbd := thrN_bd fs.length
  have Hbad := Lib.hid (fun i k (hi : i < thrN fs.length) (hk : k < thrN fs.length) h => oppB_bad (fs := fs) (n := thrN fs.length) i k hi hk h)
  have Hlt := Lib.hid (fun i k (hi : i < thrN fs.length) (hk : k < thrN fs.length) => cell_lt hi hk)
  have Hok := Lib.hid (fun a g => oppB_good (fs := fs) (n := thrN fs.length) a g)
  have HbadA := Lib.hid (fun k (hk : k < fs.length) h => oppB_all (n := thrN fs.length) (allB_not (lo := -9) (hi := 9) (fs := fs) k hk h))
  have Hin := Lib.hid (fun x z => inB_any x (-9) 9 z)
  have HallOf := Lib.hid (fun h => allB_of (lo := -9) (hi := 9) (fs := fs) h)
  have Hov := Lib.hid (show ∀ i k, oppAt fs (thrN fs.length) i k = decide (fs.getD (i * thrN fs.length + k) 0 = - fs.getD (k * thrN fs.length + i) 0) from fun _ _ => rfl)
  generalize oppB fs (thrN fs.length) = R at *
  have H0 : Hid (thrN fs.length = 0 → (if R = true then thrN fs.length else 0) = 0) := Lib.hid (fun h => by rw [h]; split <;> rfl)
  have HM0 : Hid (R = false → (if R = true then thrN fs.length else 0) = 0) := Lib.hid (fun h => by rw [h]; rfl)
  have HM1 : Hid (R = true → (if R = true then thrN fs.length else 0) = thrN fs.length) := Lib.hid (fun h => by rw [h]; rfl)
  generalize (if R = true then thrN fs.length else 0) = M at *
  obtain ⟨n, hn1⟩ : ∃ n, n = thrN fs.length := ⟨_, rfl⟩
  rw [← hn1] at hbd Hbad Hlt Hok Hov H0 HM1
  rw [← hn1] at Hsq
  clear hn1
  obtain ⟨L, hL1⟩ : ∃ n, n = fs.length := ⟨_, rfl⟩
  rw [← hL1] at hn Hf hbd HbadA HallOf Hsq
  rw [← hL1]
  clear hL1
  go_enter Try.func67, Try.ntmps67
  go_wp2
  go_loop [3, 4] (fun c i => ∃ k : Nat, 2 ≤ k ∧ k ≤ 6 ∧ i = .int .i64 (k : Int) ∧ c = .int .i64 ((if n < k then n else 0 : Nat) : Int)) (fun _ i => 6 - (intOf i).toNat)
  case atStart =>
    refine ⟨2, by omega, by omega, rfl, ?_⟩
    split
    · rename_i h; obtain rfl : n = 0 := by omega
      rfl
    · rfl
  case round =>
    obtain ⟨k, k2, k6, rfl, rfl⟩ := hrel
    by_cases hlt : k ≤ 5
    · have m1 : 0 ≤ (k : Int) * (k : Int) ∧ (k : Int) * (k : Int) ≤ 25 := by
        have := Nat.mul_le_mul hlt hlt
        rw [← Int.natCast_mul]; omega
      obtain ⟨m1a, m1b⟩ := m1
      by_cases he : L = k * k
      · have E1 := Hsq.out k k2 hlt he
        have eq1 : ((k : Int) * (k : Int) == (L : Int)) = true := by rw [beq_iff_eq, he, Int.natCast_mul]
        have eq2 : ((k : Int) * (k : Int) = (L : Int)) = True := eq_true (by rw [he, Int.natCast_mul])
        have Hnx : Hid ((if n < k + 1 then n else 0) = k) := Lib.hid (by rw [E1, if_pos (by omega)])
        clear E1 he
        go_wp2
        go_round
        case rel => exact ⟨k + 1, by omega, by omega, by go_num, by rw [Hnx.out]⟩
        case measure => simp [intOf]; omega
      · have eq1 : ((k : Int) * (k : Int) == (L : Int)) = false := by rw [beq_eq_false_iff_ne, ← Int.natCast_mul]; omega
        have eq2 : ((k : Int) * (k : Int) = (L : Int)) = False := eq_false (by rw [← Int.natCast_mul]; omega)
        have hnk : n ≠ k := fun e => by
          subst e
          rcases hbd with h | ⟨_, _, h⟩
          · omega
          · exact he h
        have Hnx : Hid ((if n < k + 1 then n else 0) = if n < k then n else 0) := Lib.hid (by
          by_cases h : n < k
          · rw [if_pos h, if_pos (by omega)]
          · rw [if_neg h, if_neg (by omega)])
        clear he
        generalize (if n < k then n else 0) = C at *
        go_wp2
        go_round
        case rel => exact ⟨k + 1, by omega, by omega, by go_num, by rw [Hnx.out]⟩
        case measure => simp [intOf]; omega
    · obtain rfl : k = 6 := by omega
      rw [if_pos (show n < 6 by omega)]
      have hn5 : n ≤ 5 := by omega
      have hnn := Nat.mul_le_mul hn5 hn5
      have hLn : 0 < n → L = n * n := fun h => by omega
      have HLn := Lib.hid hLn
      clear hLn hnn Hsq hbd
      go_wp2
      go_loopw [5] (fun i wr => ∃ a : Nat, a ≤ n ∧ i = .int .i64 (a : Int) ∧ Hid (∀ i k, i < a → k < n → (-9 ≤ fs.getD (i * n + k) 0 ∧ fs.getD (i * n + k) 0 ≤ 9) ∧ fs.getD (i * n + k) 0 = IntKind.i64.wrap (- fs.getD (k * n + i) 0)) ∧ Drawn w wr) (fun i _ => n - (intOf i).toNat)
      case atStart => exact ⟨0, Nat.zero_le _, rfl, Lib.hid (fun i k hi _ => by omega), Drawn.refl _⟩
      case round =>
        obtain ⟨a, haN, rfl, hA, hw⟩ := hrel
        by_cases hlta : a < n
        · have Hw2 := Lib.hid hw
          clear hw
          go_wp2
          obtain ⟨wo, rfl⟩ : ∃ z, z = wr := ⟨_, rfl⟩
          go_loopw [6] (fun i wi => ∃ b : Nat, b ≤ n ∧ i = .int .i64 (b : Int) ∧ Hid (∀ k, k < b → (-9 ≤ fs.getD (a * n + k) 0 ∧ fs.getD (a * n + k) 0 ≤ 9) ∧ fs.getD (a * n + k) 0 = IntKind.i64.wrap (- fs.getD (k * n + a) 0)) ∧ Drawn wo wi) (fun i _ => n - (intOf i).toNat)
          case atStart => exact ⟨0, Nat.zero_le _, rfl, Lib.hid (fun k hk => by omega), Drawn.refl _⟩
          case round =>
            obtain ⟨b, hbN, rfl, hB, hwi⟩ := hrel
            by_cases hlb : b < n
            · have l1 := Hlt.out a b hlta hlb
              have l2 := Hlt.out b a hlb hlta
              have hLn := HLn.out (by omega)
              have hnn := Nat.mul_le_mul hn5 hn5
              have Hov2 := Lib.hid (Hov.out a b)
              have Hbad2 := Lib.hid (Hbad.out a b hlta hlb)
              have HbA2 := Lib.hid (HbadA.out (a * n + b) (by omega))
              obtain ⟨hcap, bb, off, rfl, hbs, hcell⟩ := Hf.out (by omega)
              have c1 := ((Hw2.out.trans hwi).cell _).trans (hcell (a * n + b) (by omega))
              have c2 := ((Hw2.out.trans hwi).cell _).trans (hcell (b * n + a) (by omega))
              have m1 : 0 ≤ (a : Int) * (n : Int) ∧ (a : Int) * (n : Int) ≤ 25 := by rw [← Int.natCast_mul]; omega
              have m2 : 0 ≤ (b : Int) * (n : Int) ∧ (b : Int) * (n : Int) ≤ 25 := by rw [← Int.natCast_mul]; omega
              have e1 : (a : Int) * (n : Int) + (b : Int) = ((a * n + b : Nat) : Int) := by rw [Int.natCast_add, Int.natCast_mul]
              have e2 : (b : Int) * (n : Int) + (a : Int) = ((b * n + a : Nat) : Int) := by rw [Int.natCast_add, Int.natCast_mul]
              have q1 : a * n + b < L := by omega
              have q2 : b * n + a < L := by omega
              have HBn : Hid (((-9 ≤ fs.getD (a * n + b) 0 ∧ fs.getD (a * n + b) 0 ≤ 9) ∧ fs.getD (a * n + b) 0 = IntKind.i64.wrap (- fs.getD (b * n + a) 0)) → ∀ k, k < b + 1 → (-9 ≤ fs.getD (a * n + k) 0 ∧ fs.getD (a * n + k) 0 ≤ 9) ∧ fs.getD (a * n + k) 0 = IntKind.i64.wrap (- fs.getD (k * n + a) 0)) := Lib.hid (fun h k hk => by
                by_cases e : k = b
                · subst e; exact h
                · exact hB.out k (by omega))
              clear hcell hLn hnn hB
              have HbA3 : Hid (∀ k, k < L → ¬ (-9 ≤ fs.getD k 0 ∧ fs.getD k 0 ≤ 9) → R = false) := HbadA
              generalize hI1 : a * n + b = I1 at *
              generalize hI2 : b * n + a = I2 at *
              clear hI1 hI2
              have HbA4 := Lib.hid (HbA3.out I2 q2)
              generalize fs.getD I1 0 = x at *
              generalize fs.getD I2 0 = y at *
              obtain ⟨m1a, m1b⟩ := m1
              obtain ⟨m2a, m2b⟩ := m2
              have Hin2 := Lib.hid (fun z => Hin.out x z)
              by_cases hx : -9 ≤ x ∧ x ≤ 9
              · rw [decide_eq_true hx.1, decide_eq_true hx.2] at Hin2
                generalize hY : IntKind.i64.wrap (-y) = Y at *
                by_cases hxy : x = Y
                · have HN := Lib.hid (HBn.out ⟨hx, hxy⟩)
                  have nb : (x != Y) = false := by rw [bne_eq_false_iff_eq]; exact hxy
                  have HX := Lib.hid hxy
                  clear hxy HBn Hbad2 HbA2 HbA4
                  go_wp2
                  go_quiet ((go_at_call 68; exact quiet_same (Hin2.out _)))
                  go_wp2
                  go_roundw
                  case rel => exact ⟨b + 1, by omega, by go_num, HN, hwi.more _⟩
                  case measure => simp [intOf]; omega
                · have hR : R = false := by
                    by_cases hy : -9 ≤ y ∧ y ≤ 9
                    · refine Hbad2.out (Hov2.out.trans (decide_eq_false ?_))
                      intro e
                      refine hxy (e.trans ?_)
                      rw [← hY]
                      exact (IntWalk.i64_in _ (by omega)).symm
                    · exact HbA4.out hy
                  have nb : (x != Y) = true := by rw [bne_iff_ne]; exact hxy
                  have nb2 : (x = Y) = False := eq_false hxy
                  have HR := Lib.hid (HM0.out hR)
                  have HX := Lib.hid hxy
                  clear hR hxy HBn Hbad2 HbA2 HbA4
                  go_wp2
                  go_quiet ((go_at_call 68; exact quiet_same (Hin2.out _)))
                  go_wp2
                  go_ret
                  exact ⟨ret_int (by rw [HR.out]; rfl), Hw2.out.trans (hwi.more _)⟩
              · have HR := Lib.hid (HM0.out (HbA2.out hx))
                have hx2 : (decide (-9 ≤ x) && decide (x ≤ 9)) = false := by
                  rw [← Bool.decide_and]; exact decide_eq_false hx
                rw [hx2] at Hin2
                clear hx hx2 HBn Hbad2 HbA2 HbA4
                go_wp2
                go_quiet ((go_at_call 68; exact quiet_same (Hin2.out _)))
                go_wp2
                go_ret
                exact ⟨ret_int (by rw [HR.out]; rfl), Hw2.out.trans (hwi.more _)⟩
            · obtain rfl : b = n := by omega
              have HA2 : Hid (∀ i k, i < a + 1 → k < b → (-9 ≤ fs.getD (i * b + k) 0 ∧ fs.getD (i * b + k) 0 ≤ 9) ∧ fs.getD (i * b + k) 0 = IntKind.i64.wrap (- fs.getD (k * b + i) 0)) := Lib.hid (fun i k hi hk => by
                by_cases e : i = a
                · subst e; exact hB.out k hk
                · exact hA.out i k (by omega) hk)
              have hww := Lib.hid (Hw2.out.trans hwi)
              clear hwi
              go_wp2
              go_roundw
              case rel => exact ⟨a + 1, by omega, by go_num, HA2, hww.out⟩
              case measure => simp [intOf]; omega
        · obtain rfl : a = n := by omega
          have E : Hid (M = a) := Lib.hid (by
            by_cases h0 : a = 0
            · rw [H0.out h0, h0]
            · have hL := HLn.out (by omega)
              have hr : ∀ k, k < L → -9 ≤ fs.getD k 0 ∧ fs.getD k 0 ≤ 9 := fun k hk => by
                have g := (hA.out (k / a) (k % a) ((Nat.div_lt_iff_lt_mul (by omega)).2 (by omega)) (Nat.mod_lt _ (by omega))).1
                rw [Nat.mul_comm, Nat.div_add_mod] at g
                exact g
              refine HM1.out (Hok.out (HallOf.out hr) fun i k hi hk => ?_)
              rw [Hov.out]
              have g := (hA.out i k hi hk).2
              have q := hr (k * a + i) (by rw [hL]; exact cell_lt hk hi)
              rw [IntWalk.i64_in _ (by omega)] at g
              exact decide_eq_true g)
          go_wp2
          go_ret
          exact ⟨ret_int (by rw [E.out]), hw⟩
end Go.Proofs.Ytodmaomngpnboaa
