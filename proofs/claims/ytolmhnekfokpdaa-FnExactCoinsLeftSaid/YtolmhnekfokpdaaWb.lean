/- Contracts: lists compared, words, in both texts. -/
import Derived.Test.YtolmhnekfokpdaaWa
import Derived.Deep.RegionLaw
import Derived.WalkSpells
set_option linter.unusedVariables false
namespace Go.Proofs.Ytolmhnekfokpdaa
open Go.RowKit

set_option maxHeartbeats 1000000 in
theorem eqS_len (fs gs : List Int) (v u : Value) (w : World) (hn : fs.length ≤ 1048576) (hm : gs.length ≤ 1048576) (h : Sl (Value.int .i64) 0 w v fs) (g : Sl (Value.int .i64) 0 w u gs) (hl : ¬ fs.length = gs.length) : Calls Try.prog 94 #[v, u] w fun e w' => e = .returned (.bool false) ∧ Drawn w w' := by
  obtain ⟨p, cap, rfl, hf⟩ := h
  obtain ⟨q, cap', rfl, hg⟩ := g
  clear hf hg
  have hne : ((fs.length : Int) != (gs.length : Int)) = true := by rw [bne_iff_ne]; omega
  have hne' : ((fs.length : Int) = (gs.length : Int)) = False := eq_false (by omega)
  have hne'' : ((fs.length : Int) == (gs.length : Int)) = false := by rw [beq_eq_false_iff_ne]; omega
  clear hl
  generalize fs.length = n at *
  generalize gs.length = m at *
  go_enter Try.func94, Try.ntmps94
  go_wp2
  go_ret
  exact ⟨rfl, Drawn.refl _⟩
set_option maxHeartbeats 1000000 in
theorem eqS_yes (fs : List Int) (v u : Value) (w : World) (hn : fs.length ≤ 1048576) (h : Sl (Value.int .i64) 0 w v fs) (g : Sl (Value.int .i64) 0 w u fs) : Calls Try.prog 94 #[v, u] w fun e w' => e = .returned (.bool true) ∧ Drawn w w' := by
  obtain ⟨p, cap, rfl, hf⟩ := h
  obtain ⟨q, cap', rfl, hg⟩ := g
  have Hf := Lib.hid hf
  have Hg := Lib.hid hg
  clear hf hg
  generalize fs.length = n at *
  have hne : ((n : Int) != (n : Int)) = false := by simp
  go_enter Try.func94, Try.ntmps94
  go_wp2
  go_loopw [13] (fun i wr => ∃ k q : Nat, k ≤ n ∧ i = .int .i64 k ∧ wr = w.drewN q) (fun i _ => n - (intOf i).toNat)
  case atStart => exact ⟨0, 0, Nat.zero_le _, rfl, rfl⟩
  case round =>
    obtain ⟨k, dn, hk, rfl, rfl⟩ := hrel
    by_cases hlt : k < n
    · obtain ⟨hcap, b, off, rfl, hbs, hc⟩ := Hf.out (by omega)
      obtain ⟨hcap', b', off', rfl, hbs', hc'⟩ := Hg.out (by omega)
      have c1 := hc k hlt
      have c2 := hc' k hlt
      clear hc hc'
      go_wp2
      go_region
      all_goals (go_wp2; go_roundw)
      all_goals first | exact ⟨k + 1, _, by omega, by go_num, rfl⟩ | (simp [intOf]; omega)
    · obtain rfl : k = n := by omega
      go_wp2
      go_ret
      exact ⟨rfl, _, rfl⟩
set_option maxHeartbeats 1000000 in
theorem eqS_no (fs gs : List Int) (v u : Value) (w : World) (hn : fs.length ≤ 1048576) (h : Sl (Value.int .i64) 0 w v fs) (g : Sl (Value.int .i64) 0 w u gs) (hl : fs.length = gs.length) (hd : ¬ fs = gs) : Calls Try.prog 94 #[v, u] w fun e w' => e = .returned (.bool false) ∧ Drawn w w' := by
  obtain ⟨t, t1, t2, t3⟩ := list_differ hl hd
  clear hd
  obtain ⟨p, cap, rfl, hf⟩ := h
  obtain ⟨q, cap', rfl, hg⟩ := g
  rw [← hl] at hg ⊢
  have Hf := Lib.hid hf
  have Hg := Lib.hid hg
  have Ht := Lib.hid t2
  have Hd := Lib.hid t3
  clear hf hg t2 t3 hl
  generalize fs.length = n at *
  have hne : ((n : Int) != (n : Int)) = false := by simp
  go_enter Try.func94, Try.ntmps94
  go_wp2
  go_loopw [13] (fun i wr => ∃ k q : Nat, k ≤ t ∧ i = .int .i64 k ∧ wr = w.drewN q) (fun i _ => n - (intOf i).toNat)
  case atStart => exact ⟨0, 0, Nat.zero_le _, rfl, rfl⟩
  case round =>
    obtain ⟨k, dn, hk, rfl, rfl⟩ := hrel
    obtain ⟨hcap, b, off, rfl, hbs, hc⟩ := Hf.out (by omega)
    obtain ⟨hcap', b', off', rfl, hbs', hc'⟩ := Hg.out (by omega)
    have c1 := hc k (by omega)
    have c2 := hc' k (by omega)
    clear hc hc'
    by_cases hlt : k < t
    · rw [← Ht.out k hlt] at c2
      go_wp2
      go_region
      all_goals (go_wp2; go_roundw)
      all_goals first | exact ⟨k + 1, _, by omega, by go_num, rfl⟩ | (simp [intOf]; omega)
    · obtain rfl : k = t := by omega
      have hx := Hd.out
      clear Hd Ht Hf Hg
      generalize fs.getD k 0 = x at *
      generalize gs.getD k 0 = y at *
      have n1 : (x != y) = true := by rw [bne_iff_ne]; exact hx
      have n2 : (x == y) = false := by rw [beq_eq_false_iff_ne]; exact hx
      have n3 : (x = y) = False := eq_false hx
      clear hx
      go_wp2
      go_region
      all_goals
        go_wp2
        go_ret
        exact ⟨rfl, _, rfl⟩
theorem eqS_any (fs gs : List Int) (v u : Value) (w : World) (hn : fs.length ≤ 1048576) (hm : gs.length ≤ 1048576) (h : Sl (Value.int .i64) 0 w v fs) (g : Sl (Value.int .i64) 0 w u gs) : Calls Try.prog 94 #[v, u] w fun e w' => e = .returned (.bool (decide (fs = gs))) ∧ Drawn w w' := by
  by_cases e : fs = gs
  · rw [decide_eq_true e]; subst e; exact eqS_yes fs v u w hn h g
  · rw [decide_eq_false e]
    by_cases hl : fs.length = gs.length
    · exact eqS_no fs gs v u w hn h g hl e
    · exact eqS_len fs gs v u w hn hm h g hl
set_option maxHeartbeats 1000000 in
theorem sameS_len (fs gs : List Int) (v u : Value) (w : World) (hn : fs.length ≤ 1048576) (hm : gs.length ≤ 1048576) (h : Sl (Value.int .i64) 0 w v fs) (g : Sl (Value.int .i64) 0 w u gs) (hl : ¬ fs.length = gs.length) : Calls Try.prog 109 #[v, u] w fun e w' => e = .returned (.bool false) ∧ Drawn w w' := by
  obtain ⟨p, cap, rfl, hf⟩ := h
  obtain ⟨q, cap', rfl, hg⟩ := g
  clear hf hg
  have hne : ((fs.length : Int) != (gs.length : Int)) = true := by rw [bne_iff_ne]; omega
  have hne' : ((fs.length : Int) = (gs.length : Int)) = False := eq_false (by omega)
  have hne'' : ((fs.length : Int) == (gs.length : Int)) = false := by rw [beq_eq_false_iff_ne]; omega
  clear hl
  generalize fs.length = n at *
  generalize gs.length = m at *
  go_enter Try.func109, Try.ntmps109
  go_wp2
  go_ret
  exact ⟨rfl, Drawn.refl _⟩
set_option maxHeartbeats 1000000 in
theorem sameS_yes (fs : List Int) (v u : Value) (w : World) (hn : fs.length ≤ 1048576) (h : Sl (Value.int .i64) 0 w v fs) (g : Sl (Value.int .i64) 0 w u fs) : Calls Try.prog 109 #[v, u] w fun e w' => e = .returned (.bool true) ∧ Drawn w w' := by
  obtain ⟨p, cap, rfl, hf⟩ := h
  obtain ⟨q, cap', rfl, hg⟩ := g
  have Hf := Lib.hid hf
  have Hg := Lib.hid hg
  clear hf hg
  generalize fs.length = n at *
  have hne : ((n : Int) != (n : Int)) = false := by simp
  go_enter Try.func109, Try.ntmps109
  go_wp2
  go_loopw [5] (fun i wr => ∃ k q : Nat, k ≤ n ∧ i = .int .i64 k ∧ wr = w.drewN q) (fun i _ => n - (intOf i).toNat)
  case atStart => exact ⟨0, 0, Nat.zero_le _, rfl, rfl⟩
  case round =>
    obtain ⟨k, dn, hk, rfl, rfl⟩ := hrel
    by_cases hlt : k < n
    · obtain ⟨hcap, b, off, rfl, hbs, hc⟩ := Hf.out (by omega)
      obtain ⟨hcap', b', off', rfl, hbs', hc'⟩ := Hg.out (by omega)
      have c1 := hc k hlt
      have c2 := hc' k hlt
      clear hc hc'
      go_wp2
      go_region
      all_goals (go_wp2; go_roundw)
      all_goals first | exact ⟨k + 1, _, by omega, by go_num, rfl⟩ | (simp [intOf]; omega)
    · obtain rfl : k = n := by omega
      go_wp2
      go_ret
      exact ⟨rfl, _, rfl⟩
set_option maxHeartbeats 1000000 in
theorem sameS_no (fs gs : List Int) (v u : Value) (w : World) (hn : fs.length ≤ 1048576) (h : Sl (Value.int .i64) 0 w v fs) (g : Sl (Value.int .i64) 0 w u gs) (hl : fs.length = gs.length) (hd : ¬ fs = gs) : Calls Try.prog 109 #[v, u] w fun e w' => e = .returned (.bool false) ∧ Drawn w w' := by
  obtain ⟨t, t1, t2, t3⟩ := list_differ hl hd
  clear hd
  obtain ⟨p, cap, rfl, hf⟩ := h
  obtain ⟨q, cap', rfl, hg⟩ := g
  rw [← hl] at hg ⊢
  have Hf := Lib.hid hf
  have Hg := Lib.hid hg
  have Ht := Lib.hid t2
  have Hd := Lib.hid t3
  clear hf hg t2 t3 hl
  generalize fs.length = n at *
  have hne : ((n : Int) != (n : Int)) = false := by simp
  go_enter Try.func109, Try.ntmps109
  go_wp2
  go_loopw [5] (fun i wr => ∃ k q : Nat, k ≤ t ∧ i = .int .i64 k ∧ wr = w.drewN q) (fun i _ => n - (intOf i).toNat)
  case atStart => exact ⟨0, 0, Nat.zero_le _, rfl, rfl⟩
  case round =>
    obtain ⟨k, dn, hk, rfl, rfl⟩ := hrel
    obtain ⟨hcap, b, off, rfl, hbs, hc⟩ := Hf.out (by omega)
    obtain ⟨hcap', b', off', rfl, hbs', hc'⟩ := Hg.out (by omega)
    have c1 := hc k (by omega)
    have c2 := hc' k (by omega)
    clear hc hc'
    by_cases hlt : k < t
    · rw [← Ht.out k hlt] at c2
      go_wp2
      go_region
      all_goals (go_wp2; go_roundw)
      all_goals first | exact ⟨k + 1, _, by omega, by go_num, rfl⟩ | (simp [intOf]; omega)
    · obtain rfl : k = t := by omega
      have hx := Hd.out
      clear Hd Ht Hf Hg
      generalize fs.getD k 0 = x at *
      generalize gs.getD k 0 = y at *
      have n1 : (x != y) = true := by rw [bne_iff_ne]; exact hx
      have n2 : (x == y) = false := by rw [beq_eq_false_iff_ne]; exact hx
      have n3 : (x = y) = False := eq_false hx
      clear hx
      go_wp2
      go_region
      all_goals
        go_wp2
        go_ret
        exact ⟨rfl, _, rfl⟩
theorem sameS_any (fs gs : List Int) (v u : Value) (w : World) (hn : fs.length ≤ 1048576) (hm : gs.length ≤ 1048576) (h : Sl (Value.int .i64) 0 w v fs) (g : Sl (Value.int .i64) 0 w u gs) : Calls Try.prog 109 #[v, u] w fun e w' => e = .returned (.bool (decide (fs = gs))) ∧ Drawn w w' := by
  by_cases e : fs = gs
  · rw [decide_eq_true e]; subst e; exact sameS_yes fs v u w hn h g
  · rw [decide_eq_false e]
    by_cases hl : fs.length = gs.length
    · exact sameS_no fs gs v u w hn h g hl e
    · exact sameS_len fs gs v u w hn hm h g hl
theorem Sl.part {w : World} {b off n cap : Nat} {fs : List Int} (h : Sl (Value.int .i64) 0 w (.slice (some ⟨b, off, none⟩) n cap) fs) (i m c : Nat) (hi : i + m ≤ fs.length) (hc : m ≤ c) : Sl (Value.int .i64) 0 w (.slice (some ⟨b, off + i, none⟩) m c) ((fs.drop i).take m) := by
  obtain ⟨p, cap', e, h⟩ := h
  have hl : ((fs.drop i).take m).length = m := by simp; omega
  refine ⟨some ⟨b, off + i, none⟩, c, by rw [hl], fun h0 => ?_⟩
  rw [hl] at h0 ⊢
  obtain ⟨hcap, b', off', e', hbs, hx⟩ := h (by omega)
  subst e'
  injection e with e1 e2 e3
  injection e1 with e1
  injection e1 with e4 e5
  subst e4; subst e5
  refine ⟨hc, b, off + i, rfl, hbs, fun j hj => ?_⟩
  rw [Nat.add_assoc, hx (i + j) (by omega)]
  congr 2
  simp [List.getD, hj]
set_option maxHeartbeats 1000000 in
theorem wordI_yes (fs : List Int) (v : Value) (s : Int) (w : World) (hn : fs.length ≤ 1048576) (h : Sl (Value.int .i64) 0 w v fs) (hw : wordB fs s = true) : Calls Try.prog 80 #[v, .int .i64 s] w fun e w' => e = .returned (.bool true) ∧ Drawn w w' := by
  obtain ⟨⟨h0, h1⟩, h2, h3⟩ := wordB_bd hw
  have Hat := Lib.hid (fun i hi => wordB_at hw i hi)
  have HS := Lib.hid (within_yes s 2 6 w h2 h3)
  have HI := Lib.hid (fun n z a b => within_yes n 0 (s - 1) z a b)
  clear hw
  obtain ⟨p, cap, rfl, hf⟩ := h
  obtain ⟨hcap, b, off, rfl, hbs, hc⟩ := hf (by omega)
  have Hc := Lib.hid hc
  clear hf hc
  have d1 : decide ((fs.length : Int) < 1) = false := decide_eq_false (by omega)
  have d2 : decide (12 < (fs.length : Int)) = false := decide_eq_false (by omega)
  generalize fs.length = n at *
  go_enter Try.func80, Try.ntmps80
  go_wp2_with fail
  refine HS.out.mono ?_
  rintro e w' ⟨rfl, rfl⟩
  go_wp2
  go_loopw [22] (fun i wr => ∃ k : Nat, k ≤ n ∧ i = .int .i64 k ∧ wr = w) (fun i _ => n - (intOf i).toNat)
  case atStart => exact ⟨0, Nat.zero_le _, rfl, rfl⟩
  case round =>
    obtain ⟨k, hk, rfl, rfl⟩ := hrel
    by_cases hlt : k < n
    · have c1 := Hc.out k hlt
      have ha := Hat.out k hlt
      have HK := Lib.hid (fun z => HI.out (fs.getD k 0) z ha.1 ha.2)
      clear ha
      generalize fs.getD k 0 = x at *
      go_wp2_with fail
      refine (HK.out _).mono ?_
      rintro e w' ⟨rfl, rfl⟩
      go_wp2
      go_roundw
      case rel => exact ⟨k + 1, by omega, by go_num, by trivial⟩
      case measure => simp [intOf]; omega
    · obtain rfl : k = n := by omega
      go_wp2
      go_ret
      exact ⟨rfl, Drawn.refl _⟩
set_option maxHeartbeats 1000000 in
theorem wordI_no3 (fs : List Int) (v : Value) (s : Int) (w : World) (hn : fs.length ≤ 1048576) (h : Sl (Value.int .i64) 0 w v fs) (h0 : 1 ≤ fs.length) (h1 : fs.length ≤ 12) (h2 : 2 ≤ s) (h3 : s ≤ 6) (t : Nat) (t1 : t < fs.length) (t2 : ∀ j, j < t → 0 ≤ fs.getD j 0 ∧ fs.getD j 0 ≤ s - 1) (t3 : fs.getD t 0 < 0 ∨ s - 1 < fs.getD t 0) : Calls Try.prog 80 #[v, .int .i64 s] w fun e w' => e = .returned (.bool false) ∧ Drawn w w' := by
  have Hat := Lib.hid t2
  have Ht := Lib.hid t3
  have HS := Lib.hid (within_yes s 2 6 w h2 h3)
  have HI := Lib.hid (fun n z a b => within_yes n 0 (s - 1) z a b)
  have HN := Lib.hid (fun n z a => within_no n 0 (s - 1) z a)
  clear t2 t3
  obtain ⟨p, cap, rfl, hf⟩ := h
  obtain ⟨hcap, b, off, rfl, hbs, hc⟩ := hf (by omega)
  have Hc := Lib.hid hc
  clear hf hc
  have d1 : decide ((fs.length : Int) < 1) = false := decide_eq_false (by omega)
  have d2 : decide (12 < (fs.length : Int)) = false := decide_eq_false (by omega)
  generalize fs.length = n at *
  go_enter Try.func80, Try.ntmps80
  go_wp2_with fail
  refine HS.out.mono ?_
  rintro e w' ⟨rfl, rfl⟩
  go_wp2
  go_loopw [22] (fun i wr => ∃ k : Nat, k ≤ t ∧ i = .int .i64 k ∧ wr = w) (fun i _ => n - (intOf i).toNat)
  case atStart => exact ⟨0, Nat.zero_le _, rfl, rfl⟩
  case round =>
    obtain ⟨k, hk, rfl, rfl⟩ := hrel
    have c1 := Hc.out k (by omega)
    by_cases hlt : k < t
    · have ha := Hat.out k hlt
      have HK := Lib.hid (fun z => HI.out (fs.getD k 0) z ha.1 ha.2)
      clear ha
      generalize fs.getD k 0 = x at *
      go_wp2_with fail
      refine (HK.out _).mono ?_
      rintro e w' ⟨rfl, rfl⟩
      go_wp2
      go_roundw
      case rel => exact ⟨k + 1, by omega, by go_num, by trivial⟩
      case measure => simp [intOf]; omega
    · obtain rfl : k = t := by omega
      have HK := Lib.hid (fun z => HN.out (fs.getD k 0) z Ht.out)
      clear Ht
      generalize fs.getD k 0 = x at *
      go_wp2_with fail
      refine (HK.out _).mono ?_
      rintro e w' ⟨rfl, rfl⟩
      go_wp2
      go_ret
      exact ⟨rfl, Drawn.refl _⟩
theorem wordI_no2 (fs : List Int) (v : Value) (s : Int) (w : World) (hn : fs.length ≤ 1048576) (h : Sl (Value.int .i64) 0 w v fs) (h0 : 1 ≤ fs.length) (h1 : fs.length ≤ 12) (h2 : s < 2 ∨ 6 < s) : Calls Try.prog 80 #[v, .int .i64 s] w fun e w' => e = .returned (.bool false) ∧ Drawn w w' := by
  have HS := Lib.hid (within_no s 2 6 w h2)
  clear h2
  obtain ⟨p, cap, rfl, hf⟩ := h
  clear hf
  have d1 : decide ((fs.length : Int) < 1) = false := decide_eq_false (by omega)
  have d2 : decide (12 < (fs.length : Int)) = false := decide_eq_false (by omega)
  generalize fs.length = n at *
  go_enter Try.func80, Try.ntmps80
  go_wp2_with fail
  refine HS.out.mono ?_
  rintro e w' ⟨rfl, rfl⟩
  go_wp2
  go_ret
  exact ⟨rfl, Drawn.refl _⟩
theorem wordI_no1 (fs : List Int) (v : Value) (s : Int) (w : World) (hn : fs.length ≤ 1048576) (h : Sl (Value.int .i64) 0 w v fs) (h0 : fs.length < 1 ∨ 12 < fs.length) : Calls Try.prog 80 #[v, .int .i64 s] w fun e w' => e = .returned (.bool false) ∧ Drawn w w' := by
  obtain ⟨p, cap, rfl, hf⟩ := h
  clear hf
  generalize fs.length = n at *
  by_cases h1 : n < 1
  · have d1 : decide ((n : Int) < 1) = true := decide_eq_true (by omega)
    clear h0 h1
    go_enter Try.func80, Try.ntmps80
    go_wp2
    go_ret
    exact ⟨rfl, Drawn.refl _⟩
  · have d1 : decide ((n : Int) < 1) = false := decide_eq_false (by omega)
    have d2 : decide (12 < (n : Int)) = true := decide_eq_true (by omega)
    clear h0 h1
    go_enter Try.func80, Try.ntmps80
    go_wp2
    go_ret
    exact ⟨rfl, Drawn.refl _⟩
theorem wordI_any (fs : List Int) (v : Value) (s : Int) (w : World) (hn : fs.length ≤ 1048576) (h : Sl (Value.int .i64) 0 w v fs) : Calls Try.prog 80 #[v, .int .i64 s] w fun e w' => e = .returned (.bool (wordB fs s)) ∧ Drawn w w' := by
  cases hw : wordB fs s
  · rcases wordB_not hw with h0 | ⟨⟨h0, h1⟩, h2 | ⟨⟨h2, h3⟩, t, t1, t2, t3⟩⟩
    · exact wordI_no1 fs v s w hn h h0
    · exact wordI_no2 fs v s w hn h h0 h1 h2
    · exact wordI_no3 fs v s w hn h h0 h1 h2 h3 t t1 t2 t3
  · exact wordI_yes fs v s w hn h hw
set_option maxHeartbeats 1000000 in
theorem wordS_yes (fs : List Int) (v : Value) (s : Int) (w : World) (hn : fs.length ≤ 1048576) (h : Sl (Value.int .i64) 0 w v fs) (hw : wordB fs s = true) : Calls Try.prog 78 #[v, .int .i64 s] w fun e w' => e = .returned (.bool true) ∧ Drawn w w' := by
  obtain ⟨⟨h0, h1⟩, h2, h3⟩ := wordB_bd hw
  have Hat := Lib.hid (fun i hi => wordB_at hw i hi)
  have HS := Lib.hid (in_yes s 2 6 w h2 h3)
  have HI := Lib.hid (fun n z a b => in_yes n 0 (s - 1) z a b)
  clear hw
  obtain ⟨p, cap, rfl, hf⟩ := h
  obtain ⟨hcap, b, off, rfl, hbs, hc⟩ := hf (by omega)
  have Hc := Lib.hid hc
  clear hf hc
  have d1 : decide ((fs.length : Int) < 1) = false := decide_eq_false (by omega)
  have d2 : decide (12 < (fs.length : Int)) = false := decide_eq_false (by omega)
  generalize fs.length = n at *
  go_enter Try.func78, Try.ntmps78
  go_wp2_with fail
  refine HS.out.mono ?_
  rintro e w' ⟨rfl, rfl⟩
  go_wp2
  go_loopw [5] (fun i wr => ∃ k : Nat, k ≤ n ∧ i = .int .i64 k ∧ wr = w) (fun i _ => n - (intOf i).toNat)
  case atStart => exact ⟨0, Nat.zero_le _, rfl, rfl⟩
  case round =>
    obtain ⟨k, hk, rfl, rfl⟩ := hrel
    by_cases hlt : k < n
    · have c1 := Hc.out k hlt
      have ha := Hat.out k hlt
      have HK := Lib.hid (fun z => HI.out (fs.getD k 0) z ha.1 ha.2)
      clear ha
      generalize fs.getD k 0 = x at *
      go_wp2_with fail
      refine (HK.out _).mono ?_
      rintro e w' ⟨rfl, rfl⟩
      go_wp2
      go_roundw
      case rel => exact ⟨k + 1, by omega, by go_num, by trivial⟩
      case measure => simp [intOf]; omega
    · obtain rfl : k = n := by omega
      go_wp2
      go_ret
      exact ⟨rfl, Drawn.refl _⟩
set_option maxHeartbeats 1000000 in
theorem wordS_no3 (fs : List Int) (v : Value) (s : Int) (w : World) (hn : fs.length ≤ 1048576) (h : Sl (Value.int .i64) 0 w v fs) (h0 : 1 ≤ fs.length) (h1 : fs.length ≤ 12) (h2 : 2 ≤ s) (h3 : s ≤ 6) (t : Nat) (t1 : t < fs.length) (t2 : ∀ j, j < t → 0 ≤ fs.getD j 0 ∧ fs.getD j 0 ≤ s - 1) (t3 : fs.getD t 0 < 0 ∨ s - 1 < fs.getD t 0) : Calls Try.prog 78 #[v, .int .i64 s] w fun e w' => e = .returned (.bool false) ∧ Drawn w w' := by
  have Hat := Lib.hid t2
  have Ht := Lib.hid t3
  have HS := Lib.hid (in_yes s 2 6 w h2 h3)
  have HI := Lib.hid (fun n z a b => in_yes n 0 (s - 1) z a b)
  have HN := Lib.hid (fun n z a => in_no n 0 (s - 1) z a)
  clear t2 t3
  obtain ⟨p, cap, rfl, hf⟩ := h
  obtain ⟨hcap, b, off, rfl, hbs, hc⟩ := hf (by omega)
  have Hc := Lib.hid hc
  clear hf hc
  have d1 : decide ((fs.length : Int) < 1) = false := decide_eq_false (by omega)
  have d2 : decide (12 < (fs.length : Int)) = false := decide_eq_false (by omega)
  generalize fs.length = n at *
  go_enter Try.func78, Try.ntmps78
  go_wp2_with fail
  refine HS.out.mono ?_
  rintro e w' ⟨rfl, rfl⟩
  go_wp2
  go_loopw [5] (fun i wr => ∃ k : Nat, k ≤ t ∧ i = .int .i64 k ∧ wr = w) (fun i _ => n - (intOf i).toNat)
  case atStart => exact ⟨0, Nat.zero_le _, rfl, rfl⟩
  case round =>
    obtain ⟨k, hk, rfl, rfl⟩ := hrel
    have c1 := Hc.out k (by omega)
    by_cases hlt : k < t
    · have ha := Hat.out k hlt
      have HK := Lib.hid (fun z => HI.out (fs.getD k 0) z ha.1 ha.2)
      clear ha
      generalize fs.getD k 0 = x at *
      go_wp2_with fail
      refine (HK.out _).mono ?_
      rintro e w' ⟨rfl, rfl⟩
      go_wp2
      go_roundw
      case rel => exact ⟨k + 1, by omega, by go_num, by trivial⟩
      case measure => simp [intOf]; omega
    · obtain rfl : k = t := by omega
      have HK := Lib.hid (fun z => HN.out (fs.getD k 0) z Ht.out)
      clear Ht
      generalize fs.getD k 0 = x at *
      go_wp2_with fail
      refine (HK.out _).mono ?_
      rintro e w' ⟨rfl, rfl⟩
      go_wp2
      go_ret
      exact ⟨rfl, Drawn.refl _⟩
theorem wordS_no2 (fs : List Int) (v : Value) (s : Int) (w : World) (hn : fs.length ≤ 1048576) (h : Sl (Value.int .i64) 0 w v fs) (h0 : 1 ≤ fs.length) (h1 : fs.length ≤ 12) (h2 : s < 2 ∨ 6 < s) : Calls Try.prog 78 #[v, .int .i64 s] w fun e w' => e = .returned (.bool false) ∧ Drawn w w' := by
  have HS := Lib.hid (in_no s 2 6 w h2)
  clear h2
  obtain ⟨p, cap, rfl, hf⟩ := h
  clear hf
  have d1 : decide ((fs.length : Int) < 1) = false := decide_eq_false (by omega)
  have d2 : decide (12 < (fs.length : Int)) = false := decide_eq_false (by omega)
  generalize fs.length = n at *
  go_enter Try.func78, Try.ntmps78
  go_wp2_with fail
  refine HS.out.mono ?_
  rintro e w' ⟨rfl, rfl⟩
  go_wp2
  go_ret
  exact ⟨rfl, Drawn.refl _⟩
theorem wordS_no1 (fs : List Int) (v : Value) (s : Int) (w : World) (hn : fs.length ≤ 1048576) (h : Sl (Value.int .i64) 0 w v fs) (h0 : fs.length < 1 ∨ 12 < fs.length) : Calls Try.prog 78 #[v, .int .i64 s] w fun e w' => e = .returned (.bool false) ∧ Drawn w w' := by
  obtain ⟨p, cap, rfl, hf⟩ := h
  clear hf
  generalize fs.length = n at *
  by_cases hs : 2 ≤ s ∧ s ≤ 6
  · have HS := Lib.hid (in_yes s 2 6 w hs.1 hs.2)
    clear hs
    by_cases h1 : n < 1
    · have d1 : decide ((n : Int) < 1) = true := decide_eq_true (by omega)
      clear h0 h1
      go_enter Try.func78, Try.ntmps78
      go_wp2_with fail
      refine HS.out.mono ?_
      rintro e w' ⟨rfl, rfl⟩
      go_wp2
      go_ret
      exact ⟨rfl, Drawn.refl _⟩
    · have d1 : decide ((n : Int) < 1) = false := decide_eq_false (by omega)
      have d2 : decide (12 < (n : Int)) = true := decide_eq_true (by omega)
      clear h0 h1
      go_enter Try.func78, Try.ntmps78
      go_wp2_with fail
      refine HS.out.mono ?_
      rintro e w' ⟨rfl, rfl⟩
      go_wp2
      go_ret
      exact ⟨rfl, Drawn.refl _⟩
  · have HS := Lib.hid (in_no s 2 6 w (by omega))
    clear hs h0
    go_enter Try.func78, Try.ntmps78
    go_wp2_with fail
    refine HS.out.mono ?_
    rintro e w' ⟨rfl, rfl⟩
    go_wp2
    go_ret
    exact ⟨rfl, Drawn.refl _⟩
theorem wordS_any (fs : List Int) (v : Value) (s : Int) (w : World) (hn : fs.length ≤ 1048576) (h : Sl (Value.int .i64) 0 w v fs) : Calls Try.prog 78 #[v, .int .i64 s] w fun e w' => e = .returned (.bool (wordB fs s)) ∧ Drawn w w' := by
  cases hw : wordB fs s
  · rcases wordB_not hw with h0 | ⟨⟨h0, h1⟩, h2 | ⟨⟨h2, h3⟩, t, t1, t2, t3⟩⟩
    · exact wordS_no1 fs v s w hn h h0
    · exact wordS_no2 fs v s w hn h h0 h1 h2
    · exact wordS_no3 fs v s w hn h h0 h1 h2 h3 t t1 t2 t3
  · exact wordS_yes fs v s w hn h hw
def ok_IsWord (fs : List Int) (s : Int) : Bool := wordB fs s
theorem impl_IsWord (fs : List Int) (v : Value) (s : Int) (sl : -9223372036854775808 ≤ s) (su : s ≤ 9223372036854775807) (w : World) (hn : fs.length ≤ 1048576) (h : Sl (Value.int .i64) 0 w v fs) :
    Calls Try.prog 80 #[v, .int .i64 s] w fun e w' => e = .returned (.bool (ok_IsWord fs s)) ∧ Below w.heap.size w w' := (wordI_any fs v s w hn h).mono fun e w' ⟨h1, h2⟩ => ⟨h1, h2.below _⟩
