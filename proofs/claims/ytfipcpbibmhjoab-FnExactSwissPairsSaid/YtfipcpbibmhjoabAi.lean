/- Contracts: a table of who has met whom, in the program. -/
import Derived.Test.YtfipcpbibmhjoabAf
import Derived.BigQuiet
set_option linter.unusedVariables false
namespace Go.Proofs.Ytfipcpbibmhjoab
open Go.RowKit
/-- a table of how often each two have met -/
def metP (n : Nat) (M : List Int) : Prop := M.length = n * n ∧ allB 0 128 M = true ∧ ∀ i, i < n → (∀ k, k < i → M.getD (i * n + k) 0 = M.getD (k * n + i) 0) ∧ M.getD (i * n + i) 0 = 0
noncomputable def metB (n : Nat) (M : List Int) : Bool := @decide (metP n M) (Classical.propDecidable _)
theorem metB_yes {n : Nat} {M : List Int} (h : metP n M) : metB n M = true := by unfold metB; exact @decide_eq_true _ (Classical.propDecidable _) h
theorem metB_no {n : Nat} {M : List Int} (h : ¬ metP n M) : metB n M = false := by unfold metB; exact @decide_eq_false _ (Classical.propDecidable _) h
theorem metB_at {n : Nat} {M : List Int} (h : metB n M = true) : metP n M := by unfold metB at h; exact @of_decide_eq_true _ (Classical.propDecidable _) h
theorem mul_le16 {i n : Nat} (hi : i ≤ 16) (hn : n ≤ 16) : i * n ≤ 256 := by
  have := Nat.mul_le_mul hi hn
  omega
theorem cell_lt {i k n : Nat} (hi : i < n) (hk : k < n) : i * n + k < n * n := by
  have h1 : i * n + n ≤ n * n := by rw [← Nat.succ_mul]; exact Nat.mul_le_mul hi (Nat.le_refl _)
  omega
set_option maxRecDepth 100000 in
set_option maxHeartbeats 4000000 in
theorem areMet_any (M : List Int) (v : Value) (n : Nat) (w : World) (h16 : n ≤ 16) (hn : M.length ≤ 1048576) (h : Sl (Value.int .i64) 0 w v M) :
    Calls Try.prog 48 #[v, .int .i64 (n : Int)] w fun e w' => e = .returned (.bool (metB n M)) ∧ Below w.heap.size w w' := by
  have HW := Lib.hid (areW_any M v 0 128 w hn h)
  have hnn : n * n ≤ 256 := mul_le16 h16 h16
  have hq : (n : Int) * (n : Int) = ((n * n : Nat) : Int) := by simp
  have HS := Lib.hid h
  obtain ⟨p, cap, rfl, -⟩ := h
  by_cases hl : M.length = n * n
  · cases hg : allB 0 128 M
    · have E := Lib.hid (metB_no (n := n) (M := M) (fun h => by rw [h.2.1] at hg; cases hg))
      rw [hg] at HW
      clear hg HS
      generalize metB n M = R at *
      generalize M.length = m at *
      generalize hN : n * n = N at *
      subst hl
      have hne : ((m : Int) != (m : Int)) = false := by simp
      go_enter Try.func48, Try.ntmps48
      go_wp2_with (go_at_call 96; refine (HW.out).mono ?_; rintro e w' ⟨rfl, hb⟩; have Hb := Lib.hid hb; clear hb)
      go_ret
      exact ⟨ret_bool E.out.symm, Hb.out⟩
    · rw [hg] at HW
      have hq2 : (n : Int) * (n : Int) = (M.length : Int) := by rw [hq, hl]
      have hne : ((M.length : Int) != (M.length : Int)) = false := by simp
      clear hq hnn
      have hm256 : M.length ≤ 256 := by rw [hl]; exact mul_le16 h16 h16
      have HNo := Lib.hid (fun (hx : ¬ (∀ i, i < n → (∀ k, k < i → M.getD (i * n + k) 0 = M.getD (k * n + i) 0) ∧ M.getD (i * n + i) 0 = 0)) => metB_no (n := n) (M := M) (fun h => hx h.2.2))
      have HYes := Lib.hid (fun (hx : ∀ i, i < n → (∀ k, k < i → M.getD (i * n + k) 0 = M.getD (k * n + i) 0) ∧ M.getD (i * n + i) 0 = 0) => metB_yes (n := n) (M := M) ⟨hl, hg, hx⟩)
      clear hg
      have HL : Hid (M.length = n * n) := Lib.hid hl
      generalize metB n M = R at *
      clear hl
      go_enter Try.func48, Try.ntmps48
      go_wp2_with (go_at_call 96; refine (HW.out).mono ?_; rintro e w' ⟨rfl, hb⟩; have Hb := Lib.hid hb; clear hb)
      clear HW hne hq2
      go_loopw [19] (fun iv wr => ∃ i : Nat, i ≤ n ∧ iv = .int .i64 (i : Int) ∧ Hid (∀ j, j < i → (∀ k, k < j → M.getD (j * n + k) 0 = M.getD (k * n + j) 0) ∧ M.getD (j * n + j) 0 = 0) ∧ Hid (Below w.heap.size w wr)) (fun iv _ => n - (intOf iv).toNat)
      case atStart => exact ⟨0, Nat.zero_le _, rfl, Lib.hid (fun j h => absurd h (by omega)), Hb⟩
      case round =>
        obtain ⟨i, hi, rfl, Hj, HB⟩ := hrel
        by_cases hlt : i < n
        · obtain ⟨p', cap', e1, hf⟩ := HS.out
          obtain ⟨hcap, b, off, rfl, hbs, hc⟩ := hf (by rw [HL.out]; exact Nat.mul_pos (by omega) (by omega))
          cases e1
          have HC := Lib.hid hc
          clear hf hc
          obtain ⟨P, hP⟩ : ∃ P, P = i * n := ⟨_, rfl⟩
          have hP2 : (i : Int) * (n : Int) = (P : Int) := by rw [hP]; simp
          have hP3 : P ≤ 256 := by rw [hP]; exact mul_le16 (by omega) h16
          have HPk : Hid (∀ k, k < n → P + k < M.length) := Lib.hid (fun k hk => by rw [HL.out, hP]; exact cell_lt hlt hk)
          have HP := Lib.hid hP
          clear hP
          go_wp2
          go_loopw [23] (fun kv wr => ∃ k : Nat, k ≤ i ∧ kv = .int .i64 (k : Int) ∧ Hid (∀ j, j < k → M.getD (P + j) 0 = M.getD (j * n + i) 0) ∧ Hid (Below w.heap.size w wr)) (fun kv _ => i - (intOf kv).toNat)
          case atStart => exact ⟨0, Nat.zero_le _, rfl, Lib.hid (fun j h => absurd h (by omega)), HB⟩
          case round =>
            obtain ⟨k, hk, rfl, Hk, HB⟩ := hrel
            by_cases hki : k < i
            · obtain ⟨V, hV⟩ : ∃ V, V = k * n := ⟨_, rfl⟩
              have hV2 : (k : Int) * (n : Int) = (V : Int) := by rw [hV]; simp
              have hV3 : V ≤ 256 := by rw [hV]; exact mul_le16 (by omega) h16
              have hb1 : P + k < M.length := HPk.out k (by omega)
              have hb2 : V + i < M.length := by rw [HL.out, hV]; exact cell_lt (by omega) hlt
              have c1 := cell_keep HB.out (HC.out (P + k) hb1)
              have c2 := cell_keep HB.out (HC.out (V + i) hb2)
              have HV : Hid (M.getD (k * n + i) 0 = M.getD (V + i) 0) := Lib.hid (by rw [hV])
              clear hV
              by_cases he : M.getD (P + k) 0 = M.getD (V + i) 0
              · have hn1 : (M.getD (P + k) 0 != M.getD (V + i) 0) = false := by rw [he]; simp
                have HN : Hid (∀ j, j < k + 1 → M.getD (P + j) 0 = M.getD (j * n + i) 0) := Lib.hid (fun j hj => by
                  by_cases e : j = k
                  · rw [e, he, HV.out]
                  · exact Hk.out j (by omega))
                clear Hk HV
                generalize M.getD (P + k) 0 = x1 at *
                generalize M.getD (V + i) 0 = x2 at *
                generalize M.length = m at *
                subst he
                clear hn1
                go_wp2
                go_quiet (fail)
                go_wp2
                go_roundw
                case rel => exact ⟨k + 1, by omega, by go_num, HN, Lib.hid (by first | exact HB.out | exact below_drewN HB.out _)⟩
                case measure => simp [intOf]; omega
              · have hn1 : (M.getD (P + k) 0 != M.getD (V + i) 0) = true := by simpa using he
                have hn2 : (M.getD (P + k) 0 = M.getD (V + i) 0) = False := eq_false he
                have E := Lib.hid (HNo.out (fun hx => he (by have := (hx i hlt).1 k hki; rw [HV.out, ← HP.out] at this; exact this)))
                clear Hk HV he HNo HYes
                generalize M.getD (P + k) 0 = x1 at *
                generalize M.getD (V + i) 0 = x2 at *
                generalize M.length = m at *
                go_wp2
                go_quiet (fail)
                go_wp2
                go_ret
                exact ⟨ret_bool E.out.symm, by first | exact HB.out | exact below_drewN HB.out _⟩
            · obtain rfl : k = i := by omega
              have hb1 : P + k < M.length := HPk.out k hlt
              have c1 := cell_keep HB.out (HC.out (P + k) hb1)
              by_cases he : M.getD (P + k) 0 = 0
              · have HN : Hid (∀ j, j < k + 1 → (∀ q, q < j → M.getD (j * n + q) 0 = M.getD (q * n + j) 0) ∧ M.getD (j * n + j) 0 = 0) := Lib.hid (fun j hj => by
                  by_cases e : j = k
                  · subst e; rw [← HP.out]; exact ⟨Hk.out, he⟩
                  · exact Hj.out j (by omega))
                rw [he] at c1
                clear Hk Hj he
                go_wp2
                go_roundw
                case rel => exact ⟨k + 1, by omega, by go_num, HN, HB⟩
                case measure => simp [intOf]; omega
              · have hn1 : (M.getD (P + k) 0 != 0) = true := by simpa using he
                have hn2 : (M.getD (P + k) 0 = 0) = False := eq_false he
                have E := Lib.hid (HNo.out (fun hx => he (by have := (hx k hlt).2; rw [← HP.out] at this; exact this)))
                clear Hk Hj he HNo HYes
                generalize M.getD (P + k) 0 = x1 at *
                generalize M.length = m at *
                go_wp2
                go_ret
                exact ⟨ret_bool E.out.symm, HB.out⟩
        · obtain rfl : i = n := by omega
          have E := Lib.hid (HYes.out Hj.out)
          clear HNo HYes Hj
          generalize M.length = m at *
          go_wp2
          go_ret
          exact ⟨ret_bool E.out.symm, HB.out⟩
  · have E := Lib.hid (metB_no (n := n) (M := M) (fun h => hl h.1))
    generalize metB n M = R at *
    generalize M.length = m at *
    have hne : ((m : Int) != (n : Int) * (n : Int)) = true := by rw [hq]; simp; omega
    have hne2 : ((m : Int) = (n : Int) * (n : Int)) = False := by rw [hq]; exact eq_false (by omega)
    generalize n * n = N at *
    go_enter Try.func48, Try.ntmps48
    go_wp2
    go_ret
    exact ⟨ret_bool E.out.symm, Below.refl _ _⟩
end Go.Proofs.Ytfipcpbibmhjoab
