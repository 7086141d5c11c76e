/- Heaps: a move wins just if not all digits are even, pure. Nothing of a translation. -/
import Derived.Test.YtodmaomngpnboaaHpA
set_option linter.unusedVariables false
namespace Go.Proofs.Ytodmaomngpnboaa

theorem scJ_some {hit : Nat → Nat → Bool} {i : Nat} {p : Nat × Nat} : ∀ (f j : Nat), scJ hit i f j = some p → p.1 = i ∧ p.2 < j + f ∧ hit p.1 p.2 = true
  | 0, j, h => by cases h
  | f + 1, j, h => by
    unfold scJ at h
    by_cases e : hit i j = true
    · rw [if_pos e] at h; cases h; exact ⟨rfl, by show j < _; omega, e⟩
    · rw [if_neg e] at h
      obtain ⟨a, b, c⟩ := scJ_some f (j + 1) h
      exact ⟨a, by omega, c⟩
theorem scJ_none {hit : Nat → Nat → Bool} {i : Nat} : ∀ (f j : Nat), scJ hit i f j = none → ∀ b, j ≤ b → b < j + f → hit i b = false
  | 0, j, _, b, h1, h2 => by omega
  | f + 1, j, h, b, h1, h2 => by
    unfold scJ at h
    by_cases e : hit i j = true
    · rw [if_pos e] at h; cases h
    · rw [if_neg e] at h
      by_cases e2 : b = j
      · subst e2; simpa using e
      · exact scJ_none f (j + 1) h b (by omega) (by omega)
theorem scI_some {hit : Nat → Nat → Bool} {M : Nat} {p : Nat × Nat} : ∀ (f i : Nat), scI hit M f i = some p → p.1 < i + f ∧ p.2 < M ∧ hit p.1 p.2 = true
  | 0, i, h => by cases h
  | f + 1, i, h => by
    unfold scI at h
    split at h
    · rename_i q hq
      cases h
      obtain ⟨a, b, c⟩ := scJ_some M 0 hq
      exact ⟨by omega, by omega, c⟩
    · obtain ⟨a, b, c⟩ := scI_some f (i + 1) h
      exact ⟨by omega, b, c⟩
theorem scI_none {hit : Nat → Nat → Bool} {M : Nat} : ∀ (f i : Nat), scI hit M f i = none → ∀ a b, i ≤ a → a < i + f → b < M → hit a b = false
  | 0, i, _, a, b, h1, h2, _ => by omega
  | f + 1, i, h, a, b, h1, h2, h3 => by
    unfold scI at h
    split at h
    · cases h
    · rename_i hq
      by_cases e : a = i
      · subst e; exact scJ_none M 0 hq b (Nat.zero_le _) (by omega)
      · exact scI_none f (i + 1) h a b (by omega) (by omega) h3
theorem leftT_mem (ms vs : List Int) (n : Nat) (x : Int) : ∀ i, (x ∈ leftT ms vs n i ↔ ∃ j, j < i ∧ ms.getD j 0 ≤ (n : Int) ∧ x = vs.getD ((n : Int) - ms.getD j 0).toNat 0)
  | 0 => by simp [leftT]
  | i + 1 => by
    have ih := leftT_mem ms vs n x i
    by_cases e : ms.getD i 0 ≤ (n : Int)
    · rw [leftT_yes _ _ _ _ e, List.mem_append, ih, List.mem_singleton]
      constructor
      · rintro (⟨j, a, b, c⟩ | h)
        · exact ⟨j, by omega, b, c⟩
        · exact ⟨i, by omega, e, h⟩
      · rintro ⟨j, a, b, c⟩
        by_cases e2 : j = i
        · subst e2; exact .inr c
        · exact .inl ⟨j, by omega, b, c⟩
    · rw [leftT_no _ _ _ _ e, ih]
      constructor
      · rintro ⟨j, a, b, c⟩; exact ⟨j, by omega, b, c⟩
      · rintro ⟨j, a, b, c⟩
        by_cases e2 : j = i
        · subst e2; exact absurd b e
        · exact ⟨j, by omega, b, c⟩
/-- the value of a heap is none that can be left, and all below it can be left -/
theorem val_not (ms : List Int) (k n : Nat) (hk : k < n) (hm : ∀ i, i < ms.length → 1 ≤ ms.getD i 0) (j : Nat) (hj : j < ms.length) (h : ms.getD j 0 ≤ (k : Int)) : (valT ms n).getD ((k : Int) - ms.getD j 0).toNat 0 ≠ (valT ms n).getD k 0 := by
  intro e
  have h1 := mexN_out (leftT ms (valT ms k) k ms.length)
  rw [← leftT_pre ms k n hk hm ms.length (Nat.le_refl _)] at h1
  rw [valT_at ms k n hk, ← leftT_pre ms k n hk hm ms.length (Nat.le_refl _)] at e
  rw [Bool.eq_false_iff] at h1
  refine h1 (List.contains_iff_mem.2 ((leftT_mem _ _ _ _ _).2 ⟨j, hj, h, e.symm⟩))
theorem val_has (ms : List Int) (k n : Nat) (hk : k < n) (hm : ∀ i, i < ms.length → 1 ≤ ms.getD i 0) (x : Int) (h0 : 0 ≤ x) (hx : x < (valT ms n).getD k 0) : ∃ j, j < ms.length ∧ ms.getD j 0 ≤ (k : Int) ∧ (valT ms n).getD ((k : Int) - ms.getD j 0).toNat 0 = x := by
  rw [valT_at ms k n hk, ← leftT_pre ms k n hk hm ms.length (Nat.le_refl _)] at hx
  obtain ⟨y, rfl⟩ : ∃ y : Nat, x = y := ⟨x.toNat, by omega⟩
  have hy : y < mexN (leftT ms (valT ms n) k ms.length) := by omega
  have h1 := List.contains_iff_mem.1 (mexN_in _ y hy)
  obtain ⟨j, a, b, c⟩ := (leftT_mem _ _ _ _ _).1 h1
  exact ⟨j, a, b, c.symm⟩
theorem xr_zero : ∀ a, a < 5 → xr 0 ((a : Nat) : Int) = (a : Int) := by decide +kernel
theorem win_of {x : Int} {l : List Nat} (h : winB x l = true) (hx : x ≠ 0) : ∃ a ∈ l, 0 ≤ xr x (a : Int) ∧ xr x (a : Int) < (a : Int) := by
  unfold winB at h
  rw [decide_eq_false hx, Bool.false_or, List.any_eq_true] at h
  obtain ⟨a, ha, h2⟩ := h
  simp only [Bool.and_eq_true, decide_eq_true_eq] at h2
  exact ⟨a, ha, h2⟩
/-- some heap can be made such that all digits are even -/
theorem nim_any (hs vs : List Int) (h1 : 1 ≤ hs.length) (h4 : hs.length ≤ 4) (hv : ∀ i, i < hs.length → 0 ≤ vs.getD (hs.getD i 0).toNat 0 ∧ vs.getD (hs.getD i 0).toNat 0 ≤ 4) (hx : allX hs vs hs.length ≠ 0) :
    ∃ i, i < hs.length ∧ 0 ≤ xr (allX hs vs hs.length) (vs.getD (hs.getD i 0).toNat 0) ∧ xr (allX hs vs hs.length) (vs.getD (hs.getD i 0).toNat 0) < vs.getD (hs.getD i 0).toNat 0 := by
  have hn : ∀ i, i < hs.length → ∃ a : Nat, a < 5 ∧ vs.getD (hs.getD i 0).toNat 0 = (a : Int) := fun i hi => ⟨(vs.getD (hs.getD i 0).toNat 0).toNat, by have := hv i hi; omega, by have := hv i hi; omega⟩
  obtain e | e | e | e : hs.length = 1 ∨ hs.length = 2 ∨ hs.length = 3 ∨ hs.length = 4 := by omega
  · rw [e] at hx hn ⊢
    obtain ⟨a, ha, ea⟩ := hn 0 (by omega)
    have ex : allX hs vs 1 = xr 0 (a : Int) := by show bits .xor .i64 0 (vs.getD (hs.getD 0 0).toNat 0) = _; rw [ea]; rfl
    rw [ex] at hx ⊢
    obtain ⟨b, hb, h2⟩ := win_of (nim1 a ha) hx
    simp only [List.mem_cons, List.not_mem_nil, or_false] at hb
    subst hb
    exact ⟨0, by omega, by rw [ea]; exact h2.1, by rw [ea]; exact h2.2⟩
  · rw [e] at hx hn ⊢
    obtain ⟨a, ha, ea⟩ := hn 0 (by omega)
    obtain ⟨b, hb, eb⟩ := hn 1 (by omega)
    have ex : allX hs vs 2 = xr (xr 0 (a : Int)) (b : Int) := by show bits .xor .i64 (bits .xor .i64 0 (vs.getD (hs.getD 0 0).toNat 0)) (vs.getD (hs.getD 1 0).toNat 0) = _; rw [ea, eb]; rfl
    rw [ex] at hx ⊢
    obtain ⟨z, hz, h2⟩ := win_of (nim2 a ha b hb) hx
    simp only [List.mem_cons, List.not_mem_nil, or_false] at hz
    rcases hz with rfl | rfl
    · exact ⟨0, by omega, by rw [ea]; exact h2.1, by rw [ea]; exact h2.2⟩
    · exact ⟨1, by omega, by rw [eb]; exact h2.1, by rw [eb]; exact h2.2⟩
  · rw [e] at hx hn ⊢
    obtain ⟨a, ha, ea⟩ := hn 0 (by omega)
    obtain ⟨b, hb, eb⟩ := hn 1 (by omega)
    obtain ⟨c, hc, ec⟩ := hn 2 (by omega)
    have ex : allX hs vs 3 = xr (xr (xr 0 (a : Int)) (b : Int)) (c : Int) := by show bits .xor .i64 (bits .xor .i64 (bits .xor .i64 0 (vs.getD (hs.getD 0 0).toNat 0)) (vs.getD (hs.getD 1 0).toNat 0)) (vs.getD (hs.getD 2 0).toNat 0) = _; rw [ea, eb, ec]; rfl
    rw [ex] at hx ⊢
    obtain ⟨z, hz, h2⟩ := win_of (nim3 a ha b hb c hc) hx
    simp only [List.mem_cons, List.not_mem_nil, or_false] at hz
    rcases hz with rfl | rfl | rfl
    · exact ⟨0, by omega, by rw [ea]; exact h2.1, by rw [ea]; exact h2.2⟩
    · exact ⟨1, by omega, by rw [eb]; exact h2.1, by rw [eb]; exact h2.2⟩
    · exact ⟨2, by omega, by rw [ec]; exact h2.1, by rw [ec]; exact h2.2⟩
  · rw [e] at hx hn ⊢
    obtain ⟨a, ha, ea⟩ := hn 0 (by omega)
    obtain ⟨b, hb, eb⟩ := hn 1 (by omega)
    obtain ⟨c, hc, ec⟩ := hn 2 (by omega)
    obtain ⟨d, hd, ed⟩ := hn 3 (by omega)
    have ex : allX hs vs 4 = xr (xr (xr (xr 0 (a : Int)) (b : Int)) (c : Int)) (d : Int) := by show bits .xor .i64 (bits .xor .i64 (bits .xor .i64 (bits .xor .i64 0 (vs.getD (hs.getD 0 0).toNat 0)) (vs.getD (hs.getD 1 0).toNat 0)) (vs.getD (hs.getD 2 0).toNat 0)) (vs.getD (hs.getD 3 0).toNat 0) = _; rw [ea, eb, ec, ed]; rfl
    rw [ex] at hx ⊢
    obtain ⟨z, hz, h2⟩ := win_of (nim4 a ha b hb c hc d hd) hx
    simp only [List.mem_cons, List.not_mem_nil, or_false] at hz
    rcases hz with rfl | rfl | rfl | rfl
    · exact ⟨0, by omega, by rw [ea]; exact h2.1, by rw [ea]; exact h2.2⟩
    · exact ⟨1, by omega, by rw [eb]; exact h2.1, by rw [eb]; exact h2.2⟩
    · exact ⟨2, by omega, by rw [ec]; exact h2.1, by rw [ec]; exact h2.2⟩
    · exact ⟨3, by omega, by rw [ed]; exact h2.1, by rw [ed]; exact h2.2⟩
end Go.Proofs.Ytodmaomngpnboaa
