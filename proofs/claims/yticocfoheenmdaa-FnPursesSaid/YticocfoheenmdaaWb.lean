/- Contracts: lists compared, words, in both texts. -/
import Derived.Test.YticocfoheenmdaaWa
import Derived.Deep.RegionLaw
import Derived.WalkSpells
set_option linter.unusedVariables false
namespace Go.Proofs.Yticocfoheenmdaa
open Go.RowKit

set_option maxHeartbeats 1000000 in
theorem eqS_len (fs gs : List Int) (v u : Value) (w : World) (hn : fs.length ≤ 1048576) (hm : gs.length ≤ 1048576) (h : Sl (Value.int .i64) 0 w v fs) (g : Sl (Value.int .i64) 0 w u gs) (hl : ¬ fs.length = gs.length) : Calls Try.prog 56 #[v, u] w fun e w' => e = .returned (.bool false) ∧ Drawn w w' := by
  obtain ⟨p, cap, rfl, hf⟩ := h
  obtain ⟨q, cap', rfl, hg⟩ := g
  clear hf hg
  have hne : ((fs.length : Int) != (gs.length : Int)) = true := by rw [bne_iff_ne]; omega
  have hne' : ((fs.length : Int) = (gs.length : Int)) = False := eq_false (by omega)
  have hne'' : ((fs.length : Int) == (gs.length : Int)) = false := by rw [beq_eq_false_iff_ne]; omega
  clear hl
  generalize fs.length = n at *
  generalize gs.length = m at *
  go_enter Try.func56, Try.ntmps56
  go_wp2
  go_ret
  exact ⟨rfl, Drawn.refl _⟩
set_option maxHeartbeats 1000000 in
theorem eqS_yes (fs : List Int) (v u : Value) (w : World) (hn : fs.length ≤ 1048576) (h : Sl (Value.int .i64) 0 w v fs) (g : Sl (Value.int .i64) 0 w u fs) : Calls Try.prog 56 #[v, u] w fun e w' => e = .returned (.bool true) ∧ Drawn w w' := by
  obtain ⟨p, cap, rfl, hf⟩ := h
  obtain ⟨q, cap', rfl, hg⟩ := g
  have Hf := Lib.hid hf
  have Hg := Lib.hid hg
  clear hf hg
  generalize fs.length = n at *
  have hne : ((n : Int) != (n : Int)) = false := by simp
  go_enter Try.func56, Try.ntmps56
  go_wp2
  go_loopw [13] (fun i wr => ∃ k q : Nat, k ≤ n ∧ i = .int .i64 k ∧ wr = w.drewN q) (fun i _ => n - (intOf i).toNat)
  case atStart => exact ⟨0, 0, Nat.zero_le _, rfl, rfl⟩
  case round =>
    obtain ⟨k, dn, hk, rfl, rfl⟩ := hrel
    by_cases hlt : k < n
    · obtain ⟨hcap, b, off, rfl, hbs, hc⟩ := Hf.out (by omega)
      obtain ⟨hcap', b', off', rfl, hbs', hc'⟩ := Hg.out (by omega)
      have c1 := hc k hlt
      have c2 := hc' k hlt
      clear hc hc'
      go_wp2
      go_region
      all_goals (go_wp2; go_roundw)
      all_goals first | exact ⟨k + 1, _, by omega, by go_num, rfl⟩ | (simp [intOf]; omega)
    · obtain rfl : k = n := by omega
      go_wp2
      go_ret
      exact ⟨rfl, _, rfl⟩
set_option maxHeartbeats 1000000 in
theorem eqS_no (fs gs : List Int) (v u : Value) (w : World) (hn : fs.length ≤ 1048576) (h : Sl (Value.int .i64) 0 w v fs) (g : Sl (Value.int .i64) 0 w u gs) (hl : fs.length = gs.length) (hd : ¬ fs = gs) : Calls Try.prog 56 #[v, u] w fun e w' => e = .returned (.bool false) ∧ Drawn w w' := by
  obtain ⟨t, t1, t2, t3⟩ := list_differ hl hd
  clear hd
  obtain ⟨p, cap, rfl, hf⟩ := h
  obtain ⟨q, cap', rfl, hg⟩ := g
  rw [← hl] at hg ⊢
  have Hf := Lib.hid hf
  have Hg := Lib.hid hg
  have Ht := Lib.hid t2
  have Hd := Lib.hid t3
  clear hf hg t2 t3 hl
  generalize fs.length = n at *
  have hne : ((n : Int) != (n : Int)) = false := by simp
  go_enter Try.func56, Try.ntmps56
  go_wp2
  go_loopw [13] (fun i wr => ∃ k q : Nat, k ≤ t ∧ i = .int .i64 k ∧ wr = w.drewN q) (fun i _ => n - (intOf i).toNat)
  case atStart => exact ⟨0, 0, Nat.zero_le _, rfl, rfl⟩
  case round =>
    obtain ⟨k, dn, hk, rfl, rfl⟩ := hrel
    obtain ⟨hcap, b, off, rfl, hbs, hc⟩ := Hf.out (by omega)
    obtain ⟨hcap', b', off', rfl, hbs', hc'⟩ := Hg.out (by omega)
    have c1 := hc k (by omega)
    have c2 := hc' k (by omega)
    clear hc hc'
    by_cases hlt : k < t
    · rw [← Ht.out k hlt] at c2
      go_wp2
      go_region
      all_goals (go_wp2; go_roundw)
      all_goals first | exact ⟨k + 1, _, by omega, by go_num, rfl⟩ | (simp [intOf]; omega)
    · obtain rfl : k = t := by omega
      have hx := Hd.out
      clear Hd Ht Hf Hg
      generalize fs.getD k 0 = x at *
      generalize gs.getD k 0 = y at *
      have n1 : (x != y) = true := by rw [bne_iff_ne]; exact hx
      have n2 : (x == y) = false := by rw [beq_eq_false_iff_ne]; exact hx
      have n3 : (x = y) = False := eq_false hx
      clear hx
      go_wp2
      go_region
      all_goals
        go_wp2
        go_ret
        exact ⟨rfl, _, rfl⟩
theorem eqS_any (fs gs : List Int) (v u : Value) (w : World) (hn : fs.length ≤ 1048576) (hm : gs.length ≤ 1048576) (h : Sl (Value.int .i64) 0 w v fs) (g : Sl (Value.int .i64) 0 w u gs) : Calls Try.prog 56 #[v, u] w fun e w' => e = .returned (.bool (decide (fs = gs))) ∧ Drawn w w' := by
  by_cases e : fs = gs
  · rw [decide_eq_true e]; subst e; exact eqS_yes fs v u w hn h g
  · rw [decide_eq_false e]
    by_cases hl : fs.length = gs.length
    · exact eqS_no fs gs v u w hn h g hl e
    · exact eqS_len fs gs v u w hn hm h g hl
theorem Sl.part {w : World} {b off n cap : Nat} {fs : List Int} (h : Sl (Value.int .i64) 0 w (.slice (some ⟨b, off, none⟩) n cap) fs) (i m c : Nat) (hi : i + m ≤ fs.length) (hc : m ≤ c) : Sl (Value.int .i64) 0 w (.slice (some ⟨b, off + i, none⟩) m c) ((fs.drop i).take m) := by
  obtain ⟨p, cap', e, h⟩ := h
  have hl : ((fs.drop i).take m).length = m := by simp; omega
  refine ⟨some ⟨b, off + i, none⟩, c, by rw [hl], fun h0 => ?_⟩
  rw [hl] at h0 ⊢
  obtain ⟨hcap, b', off', e', hbs, hx⟩ := h (by omega)
  subst e'
  injection e with e1 e2 e3
  injection e1 with e1
  injection e1 with e4 e5
  subst e4; subst e5
  refine ⟨hc, b, off + i, rfl, hbs, fun j hj => ?_⟩
  rw [Nat.add_assoc, hx (i + j) (by omega)]
  congr 2
  simp [List.getD, hj]
def ok_IsWord (fs : List Int) (s : Int) : Bool := wordB fs s
