/- Contracts: lists of numbers compared (the model's); dice compared; how often dice beat one another. -/
import Derived.Test.YtodmaomngpnboaaWb
import Derived.Test.YtodmaomngpnboaaMc
import Derived.Deep.RegionLawGrows
set_option linter.unusedVariables false
namespace Go.Proofs.Ytodmaomngpnboaa
open Go.RowKit

set_option maxHeartbeats 1000000 in
theorem sameZ_len (fs gs : List Int) (v u : Value) (w : World) (hn : fs.length ≤ 1048576) (hm : gs.length ≤ 1048576) (h : Sl (Value.int .i64) 0 w v fs) (g : Sl (Value.int .i64) 0 w u gs) (hl : ¬ fs.length = gs.length) : Calls Try.prog 88 #[v, u] w fun e w' => e = .returned (.bool false) ∧ Drawn w w' := by
  obtain ⟨p, cap, rfl, hf⟩ := h
  obtain ⟨q, cap', rfl, hg⟩ := g
  clear hf hg
  have hne : ((fs.length : Int) != (gs.length : Int)) = true := by rw [bne_iff_ne]; omega
  have hne' : ((fs.length : Int) = (gs.length : Int)) = False := eq_false (by omega)
  have hne'' : ((fs.length : Int) == (gs.length : Int)) = false := by rw [beq_eq_false_iff_ne]; omega
  clear hl
  generalize fs.length = n at *
  generalize gs.length = m at *
  go_enter Try.func88, Try.ntmps88
  go_wp2
  go_ret
  exact ⟨rfl, Drawn.refl _⟩
set_option maxHeartbeats 1000000 in
theorem sameZ_yes (fs : List Int) (v u : Value) (w : World) (hn : fs.length ≤ 1048576) (h : Sl (Value.int .i64) 0 w v fs) (g : Sl (Value.int .i64) 0 w u fs) : Calls Try.prog 88 #[v, u] w fun e w' => e = .returned (.bool true) ∧ Drawn w w' := by
  obtain ⟨p, cap, rfl, hf⟩ := h
  obtain ⟨q, cap', rfl, hg⟩ := g
  have Hf := Lib.hid hf
  have Hg := Lib.hid hg
  clear hf hg
  generalize fs.length = n at *
  have hne : ((n : Int) != (n : Int)) = false := by simp
  go_enter Try.func88, Try.ntmps88
  go_wp2
  go_loopw [5] (fun i wr => ∃ k q : Nat, k ≤ n ∧ i = .int .i64 k ∧ wr = w.drewN q) (fun i _ => n - (intOf i).toNat)
  case atStart => exact ⟨0, 0, Nat.zero_le _, rfl, rfl⟩
  case round =>
    obtain ⟨k, dn, hk, rfl, rfl⟩ := hrel
    by_cases hlt : k < n
    · obtain ⟨hcap, b, off, rfl, hbs, hc⟩ := Hf.out (by omega)
      obtain ⟨hcap', b', off', rfl, hbs', hc'⟩ := Hg.out (by omega)
      have c1 := hc k hlt
      have c2 := hc' k hlt
      clear hc hc'
      go_wp2
      go_region
      all_goals (go_wp2; go_roundw)
      all_goals first | exact ⟨k + 1, _, by omega, by go_num, rfl⟩ | (simp [intOf]; omega)
    · obtain rfl : k = n := by omega
      go_wp2
      go_ret
      exact ⟨rfl, _, rfl⟩
set_option maxHeartbeats 1000000 in
theorem sameZ_no (fs gs : List Int) (v u : Value) (w : World) (hn : fs.length ≤ 1048576) (h : Sl (Value.int .i64) 0 w v fs) (g : Sl (Value.int .i64) 0 w u gs) (hl : fs.length = gs.length) (hd : ¬ fs = gs) : Calls Try.prog 88 #[v, u] w fun e w' => e = .returned (.bool false) ∧ Drawn w w' := by
  obtain ⟨t, t1, t2, t3⟩ := list_differ hl hd
  clear hd
  obtain ⟨p, cap, rfl, hf⟩ := h
  obtain ⟨q, cap', rfl, hg⟩ := g
  rw [← hl] at hg ⊢
  have Hf := Lib.hid hf
  have Hg := Lib.hid hg
  have Ht := Lib.hid t2
  have Hd := Lib.hid t3
  clear hf hg t2 t3 hl
  generalize fs.length = n at *
  have hne : ((n : Int) != (n : Int)) = false := by simp
  go_enter Try.func88, Try.ntmps88
  go_wp2
  go_loopw [5] (fun i wr => ∃ k q : Nat, k ≤ t ∧ i = .int .i64 k ∧ wr = w.drewN q) (fun i _ => n - (intOf i).toNat)
  case atStart => exact ⟨0, 0, Nat.zero_le _, rfl, rfl⟩
  case round =>
    obtain ⟨k, dn, hk, rfl, rfl⟩ := hrel
    obtain ⟨hcap, b, off, rfl, hbs, hc⟩ := Hf.out (by omega)
    obtain ⟨hcap', b', off', rfl, hbs', hc'⟩ := Hg.out (by omega)
    have c1 := hc k (by omega)
    have c2 := hc' k (by omega)
    clear hc hc'
    by_cases hlt : k < t
    · rw [← Ht.out k hlt] at c2
      go_wp2
      go_region
      all_goals (go_wp2; go_roundw)
      all_goals first | exact ⟨k + 1, _, by omega, by go_num, rfl⟩ | (simp [intOf]; omega)
    · obtain rfl : k = t := by omega
      have hx := Hd.out
      clear Hd Ht Hf Hg
      generalize fs.getD k 0 = x at *
      generalize gs.getD k 0 = y at *
      have n1 : (x != y) = true := by rw [bne_iff_ne]; exact hx
      have n2 : (x == y) = false := by rw [beq_eq_false_iff_ne]; exact hx
      have n3 : (x = y) = False := eq_false hx
      clear hx
      go_wp2
      go_region
      all_goals
        go_wp2
        go_ret
        exact ⟨rfl, _, rfl⟩
theorem sameZ_any (fs gs : List Int) (v u : Value) (w : World) (hn : fs.length ≤ 1048576) (hm : gs.length ≤ 1048576) (h : Sl (Value.int .i64) 0 w v fs) (g : Sl (Value.int .i64) 0 w u gs) : Calls Try.prog 88 #[v, u] w fun e w' => e = .returned (.bool (decide (fs = gs))) ∧ Drawn w w' := by
  by_cases e : fs = gs
  · rw [decide_eq_true e]; subst e; exact sameZ_yes fs v u w hn h g
  · rw [decide_eq_false e]
    by_cases hl : fs.length = gs.length
    · exact sameZ_no fs gs v u w hn h g hl e
    · exact sameZ_len fs gs v u w hn hm h g hl

def ok_SameDie (fs gs : List Int) : Bool := decide (fs = gs)
