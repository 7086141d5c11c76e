/- Contracts: games of throws, in both texts. -/
import Derived.Test.YtodmaomngpnboaaMc
import Derived.Deep.RegionLawGrows
set_option linter.unusedVariables false
namespace Go.Proofs.Ytodmaomngpnboaa
open Go.RowKit

def oppAt (fs : List Int) (n i k : Nat) : Bool := decide (fs.getD (i * n + k) 0 = - fs.getD (k * n + i) 0)
/-- wins of n throws, each the opposite of the other way -/
def oppB (fs : List Int) (n : Nat) : Bool := allB (-9) 9 fs && (List.range n).all fun i => (List.range n).all fun k => oppAt fs n i k
theorem oppB_bad {fs : List Int} {n : Nat} (i k : Nat) (hi : i < n) (hk : k < n) (h : oppAt fs n i k = false) : oppB fs n = false := by
  cases e : oppB fs n
  · rfl
  · unfold oppB at e
    rw [Bool.and_eq_true] at e
    rw [List.all_eq_true.1 (List.all_eq_true.1 e.2 i (List.mem_range.2 hi)) k (List.mem_range.2 hk)] at h
    cases h
theorem oppB_all {fs : List Int} {n : Nat} (h : allB (-9) 9 fs = false) : oppB fs n = false := by unfold oppB; rw [h]; rfl
theorem oppB_good {fs : List Int} {n : Nat} (h : allB (-9) 9 fs = true) (g : ∀ i k, i < n → k < n → oppAt fs n i k = true) : oppB fs n = true := by
  unfold oppB
  rw [h, Bool.true_and]
  exact List.all_eq_true.2 fun i hi => List.all_eq_true.2 fun k hk => g i k (List.mem_range.1 hi) (List.mem_range.1 hk)
theorem cell_lt {n i k : Nat} (hi : i < n) (hk : k < n) : i * n + k < n * n := by
  have := Nat.mul_le_mul_right n (show i + 1 ≤ n by omega)
  rw [Nat.succ_mul] at this
  omega
set_option maxRecDepth 100000 in
set_option maxHeartbeats 4000000 in
theorem opp_any (fs : List Int) (v : Value) (n : Nat) (w : World) (h2 : 2 ≤ n) (h5 : n ≤ 5) (hl : fs.length = n * n) (h : Sl (Value.int .i64) 0 w v fs) :
    Calls Try.prog 125 #[v, .int .i64 (n : Int)] w fun e w' => e = .returned (.bool (oppB fs n)) ∧ Below w.heap.size w w' := by
  have hnn := Nat.mul_le_mul h5 h5
  have Hw := Lib.hid (areW_any fs v (-9) 9 w (by omega) h)
  obtain ⟨p, cap, rfl, hf⟩ := h
  have Hf := Lib.hid hf
  clear hf
  have Hbad := Lib.hid (fun i k (hi : i < n) (hk : k < n) h => oppB_bad (fs := fs) (n := n) i k hi hk h)
  have Hlt := Lib.hid (fun i k (hi : i < n) (hk : k < n) => cell_lt hi hk)
  cases ha : allB (-9) 9 fs
  · rw [ha] at Hw
    rw [oppB_all ha]
    clear ha hl
    generalize fs.length = L at *
    go_enter Try.func125, Try.ntmps125
    go_wp2_with fail
    refine (Hw.out).mono ?_
    rintro e w2 ⟨rfl, hd⟩
    have Hd := Lib.hid hd
    clear hd
    go_wp2
    go_ret
    exact ⟨rfl, Hd.out⟩
  · rw [ha] at Hw
    have Hok := Lib.hid (fun g => oppB_good (fs := fs) (n := n) ha g)
    have Hall := Lib.hid (fun k hk => allB_at ha k hk)
    generalize oppB fs n = R at *
    clear ha
    rw [hl] at Hf Hall Hw
    rw [hl]
    clear hl
    have HNN := Lib.hid hnn
    generalize hN : n * n = NN at *
    have HN := Lib.hid hN
    clear hN
    go_enter Try.func125, Try.ntmps125
    go_wp2_with fail
    refine (Hw.out).mono ?_
    rintro e w1 ⟨rfl, hd⟩
    have Hd := Lib.hid hd
    clear hd Hw
    go_wp2
    go_loopw [11] (fun i wr => ∃ a : Nat, a ≤ n ∧ i = .int .i64 (a : Int) ∧ Hid (∀ i k, i < a → k < n → oppAt fs n i k = true) ∧ Drawn w1 wr) (fun i _ => n - (intOf i).toNat)
    case atStart => exact ⟨0, Nat.zero_le _, rfl, Lib.hid (fun i k hi _ => by omega), Drawn.refl _⟩
    case round =>
      obtain ⟨a, haN, rfl, hA, hw⟩ := hrel
      by_cases hlt : a < n
      · have Hw2 := Lib.hid hw
        clear hw
        go_wp2
        obtain ⟨wo, rfl⟩ : ∃ z, z = wr := ⟨_, rfl⟩
        go_loopw [15] (fun i wi => ∃ b : Nat, b ≤ n ∧ i = .int .i64 (b : Int) ∧ Hid (∀ k, k < b → oppAt fs n a k = true) ∧ Drawn wo wi) (fun i _ => n - (intOf i).toNat)
        case atStart => exact ⟨0, Nat.zero_le _, rfl, Lib.hid (fun k hk => by omega), Drawn.refl _⟩
        case round =>
          obtain ⟨b, hbN, rfl, hB, hwi⟩ := hrel
          by_cases hlb : b < n
          · have l1 := Hlt.out a b hlt hlb
            have l2 := Hlt.out b a hlb hlt
            have hat : oppAt fs n a b = decide (fs.getD (a * n + b) 0 = - fs.getD (b * n + a) 0) := rfl
            have Hbad2 := Lib.hid (Hbad.out a b hlt hlb)
            obtain ⟨hcap, bb, off, rfl, hbs, hcell⟩ := Hf.out (by omega)
            have c1 := ((Hw2.out.trans hwi).cell _).trans (cell_keep Hd.out (hcell (a * n + b) (by omega)))
            have c2 := ((Hw2.out.trans hwi).cell _).trans (cell_keep Hd.out (hcell (b * n + a) (by omega)))
            have r2 := Hall.out (b * n + a) (by omega)
            have m1 : 0 ≤ (a : Int) * (n : Int) ∧ (a : Int) * (n : Int) ≤ 25 := by rw [← Int.natCast_mul]; omega
            have m2 : 0 ≤ (b : Int) * (n : Int) ∧ (b : Int) * (n : Int) ≤ 25 := by rw [← Int.natCast_mul]; omega
            have e1 : (a : Int) * (n : Int) + (b : Int) = ((a * n + b : Nat) : Int) := by rw [Int.natCast_add, Int.natCast_mul]
            have e2 : (b : Int) * (n : Int) + (a : Int) = ((b * n + a : Nat) : Int) := by rw [Int.natCast_add, Int.natCast_mul]
            have Hat := Lib.hid hat
            clear hcell hat
            generalize a * n + b = I1 at *
            generalize b * n + a = I2 at *
            generalize fs.getD I1 0 = x at *
            generalize fs.getD I2 0 = y at *
            obtain ⟨m1a, m1b⟩ := m1
            obtain ⟨m2a, m2b⟩ := m2
            by_cases hxy : x = -y
            · have HB2 : Hid (∀ k, k < b + 1 → oppAt fs n a k = true) := Lib.hid (fun k hk => by
                by_cases e : k = b
                · subst e; rw [Hat.out]; exact decide_eq_true hxy
                · exact hB.out k (by omega))
              have nb : (x != -y) = false := by rw [bne_eq_false_iff_eq]; exact hxy
              have HX := Lib.hid hxy
              clear hxy Hbad2 hB
              go_wp2
              go_region
              all_goals
                go_wp2
                go_roundw
                case rel => exact ⟨b + 1, by omega, by go_num, HB2, hwi.more _⟩
                case measure => simp [intOf]; omega
            · have E := Lib.hid (Hbad2.out (Hat.out.trans (decide_eq_false hxy)))
              have nb : (x != -y) = true := by rw [bne_iff_ne]; exact hxy
              have nb2 : (x = -y) = False := eq_false hxy
              have HX := Lib.hid hxy
              clear hxy Hbad2 hB
              go_wp2
              go_region
              all_goals
                go_wp2
                go_ret
                exact ⟨ret_bool E.out.symm, Hd.out.trans ((Hw2.out.trans (hwi.more _)).below _)⟩
          · obtain rfl : b = n := by omega
            have HA2 : Hid (∀ i k, i < a + 1 → k < b → oppAt fs b i k = true) := Lib.hid (fun i k hi hk => by
              by_cases e : i = a
              · subst e; exact hB.out k hk
              · exact hA.out i k (by omega) hk)
            have hww := Lib.hid (Hw2.out.trans hwi)
            clear hwi
            go_wp2
            go_roundw
            case rel => exact ⟨a + 1, by omega, by go_num, HA2, hww.out⟩
            case measure => simp [intOf]; omega
      · obtain rfl : a = n := by omega
        have E := Lib.hid (Hok.out hA.out)
        go_wp2
        go_ret
        exact ⟨ret_bool E.out.symm, Hd.out.trans (hw.below _)⟩

/-- how many throws a list of wins is for, by its length; 0 if for none -/
def thrN (L : Nat) : Nat := if L = 4 then 2 else if L = 9 then 3 else if L = 16 then 4 else if L = 25 then 5 else 0
theorem thrN_sq (L n : Nat) (h2 : 2 ≤ n) (h5 : n ≤ 5) (h : L = n * n) : thrN L = n := by
  obtain rfl | rfl | rfl | rfl : n = 2 ∨ n = 3 ∨ n = 4 ∨ n = 5 := by omega
  all_goals (subst h; rfl)
theorem thrN_bd (L : Nat) : thrN L = 0 ∨ (2 ≤ thrN L ∧ thrN L ≤ 5 ∧ L = thrN L * thrN L) := by
  unfold thrN; split
  · exact .inr (by omega)
  · split
    · exact .inr (by omega)
    · split
      · exact .inr (by omega)
      · split
        · exact .inr (by omega)
        · exact .inl rfl
theorem thrN_no (L : Nat) (h : ∀ n, 2 ≤ n → n ≤ 5 → ¬ L = n * n) : thrN L = 0 := by
  rcases thrN_bd L with e | ⟨a, b, c⟩
  · exact e
  · exact absurd c (h _ a b)
def thrB (fs : List Int) : Bool := decide (thrN fs.length ≠ 0) && oppB fs (thrN fs.length)
set_option maxRecDepth 100000 in
set_option maxHeartbeats 4000000 in
theorem throws_any (fs : List Int) (v : Value) (w : World) (hn : fs.length ≤ 1048576) (h : Sl (Value.int .i64) 0 w v fs) :
    Calls Try.prog 70 #[v] w fun e w' => e = .returned (.tuple #[.int .i64 (thrN fs.length : Int), .bool (thrB fs)]) ∧ Below w.heap.size w w' := by
  have Ho := Lib.hid (fun n h2 h5 hl => opp_any fs v n w h2 h5 hl h)
  obtain ⟨p, cap, rfl, -⟩ := h
  have Hsq := Lib.hid (thrN_sq fs.length)
  have Hno := Lib.hid (thrN_no fs.length)
  have HB := Lib.hid (show thrB fs = (decide (thrN fs.length ≠ 0) && oppB fs (thrN fs.length)) from rfl)
  generalize thrB fs = R at *
  generalize fs.length = L at *
  go_enter Try.func70, Try.ntmps70
  go_wp2
  go_loop [4] (fun i => ∃ n : Nat, 2 ≤ n ∧ n ≤ 6 ∧ i = .int .i64 (n : Int) ∧ Hid (∀ k, 2 ≤ k → k < n → ¬ L = k * k)) (fun i => 6 - (intOf i).toNat)
  case atStart => exact ⟨2, by omega, by omega, rfl, Lib.hid (fun k h1 h2 => by omega)⟩
  case round =>
    obtain ⟨n, h2, h6, rfl, hdn⟩ := hrel
    by_cases hlt : n ≤ 5
    · have m1 : 0 ≤ (n : Int) * (n : Int) ∧ (n : Int) * (n : Int) ≤ 25 := by
        have := Nat.mul_le_mul hlt hlt
        rw [← Int.natCast_mul]; omega
      obtain ⟨m1a, m1b⟩ := m1
      by_cases he : L = n * n
      · have Hc := Lib.hid (Ho.out n h2 hlt he)
        have E1 := Hsq.out n h2 hlt he
        have E2 := HB.out
        rw [E1, decide_eq_true (show n ≠ 0 by omega), Bool.true_and] at E2
        have eq1 : ((L : Int) == (n : Int) * (n : Int)) = true := by rw [beq_iff_eq, he, Int.natCast_mul]
        have eq2 : ((L : Int) = (n : Int) * (n : Int)) = True := eq_true (by rw [he, Int.natCast_mul])
        have HE1 := Lib.hid E1
        have HE2 := Lib.hid E2
        clear E1 E2 he Hsq Hno HB Ho
        go_wp2_with (refine (Hc.out).mono ?_; rintro e w' ⟨rfl, hd⟩; have Hd := Lib.hid hd; clear hd)
        go_ret2
        exact ⟨by rw [HE1.out, HE2.out]; rfl, Hd.out⟩
      · have eq1 : ((L : Int) == (n : Int) * (n : Int)) = false := by rw [beq_eq_false_iff_ne, ← Int.natCast_mul]; omega
        have eq2 : ((L : Int) = (n : Int) * (n : Int)) = False := eq_false (by rw [← Int.natCast_mul]; omega)
        have Hdn2 : Hid (∀ k, 2 ≤ k → k < n + 1 → ¬ L = k * k) := Lib.hid (fun k h1 h2 => by
          by_cases e : k = n
          · subst e; exact he
          · exact hdn.out k h1 (by omega))
        clear he
        go_wp2
        go_round
        case rel => exact ⟨n + 1, by omega, by omega, by go_num, Hdn2⟩
        case measure => simp [intOf]; omega
    · obtain rfl : n = 6 := by omega
      have E1 := Hno.out (fun k h1 h2 => hdn.out k h1 (by omega))
      have E2 := HB.out
      rw [E1] at E2
      have HE1 := Lib.hid E1
      have HE2 := Lib.hid E2
      clear E1 E2 Hsq Hno HB Ho
      go_wp2
      go_ret2
      exact ⟨by rw [HE1.out, HE2.out]; rfl, Below.refl _ _⟩
end Go.Proofs.Ytodmaomngpnboaa
