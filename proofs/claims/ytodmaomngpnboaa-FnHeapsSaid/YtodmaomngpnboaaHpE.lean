/- Heaps: the lists that the law makes, pure. Nothing of a translation. -/
import Derived.Test.YtodmaomngpnboaaHpB
set_option linter.unusedVariables false
namespace Go.Proofs.Ytodmaomngpnboaa

theorem leftS_mem (acc vs : List Int) (n t : Nat) (x : Int) : ∀ i, (x ∈ leftS acc vs n t i ↔ x ∈ acc ∨ ∃ j, j < i ∧ x = bits .xor .i64 (vs.getD j 0) (vs.getD (n - t - j) 0))
  | 0 => by simp [leftS]
  | i + 1 => by
    have ih := leftS_mem acc vs n t x i
    rw [leftS, List.mem_append, ih, List.mem_singleton]
    constructor
    · rintro ((h | ⟨j, a, b⟩) | h)
      · exact .inl h
      · exact .inr ⟨j, by omega, b⟩
      · exact .inr ⟨i, by omega, h⟩
    · rintro (h | ⟨j, a, b⟩)
      · exact .inl (.inl h)
      · by_cases e : j = i
        · subst e; exact .inr b
        · exact .inl (.inr ⟨j, by omega, b⟩)
/-- what can be left of k pins, as the law lists it: the first i places -/
def spL (vs : List Int) (k : Nat) : Nat → List Int
  | 0 => []
  | i + 1 => (spL vs k i ++ [bits .xor .i64 (vs.getD i 0) (vs.getD (k - 1 - i) 0)]) ++ (if i + 1 < k then [bits .xor .i64 (vs.getD i 0) (vs.getD (k - 2 - i) 0)] else [])
theorem spL_len (vs : List Int) (k : Nat) : ∀ i, (spL vs k i).length ≤ 2 * i
  | 0 => Nat.le_refl _
  | i + 1 => by
    have := spL_len vs k i
    rw [spL, List.length_append, List.length_append]
    split <;> simp <;> omega
theorem spL_mem (vs : List Int) (k : Nat) (x : Int) : ∀ i, (x ∈ spL vs k i ↔ (∃ j, j < i ∧ x = bits .xor .i64 (vs.getD j 0) (vs.getD (k - 1 - j) 0)) ∨ (∃ j, j < i ∧ j + 1 < k ∧ x = bits .xor .i64 (vs.getD j 0) (vs.getD (k - 2 - j) 0)))
  | 0 => by simp [spL]
  | i + 1 => by
    have ih := spL_mem vs k x i
    rw [spL, List.mem_append, List.mem_append, ih, List.mem_singleton]
    constructor
    · rintro (((⟨j, a, b⟩ | ⟨j, a, b, c⟩) | h) | h)
      · exact .inl ⟨j, by omega, b⟩
      · exact .inr ⟨j, by omega, b, c⟩
      · exact .inl ⟨i, by omega, h⟩
      · split at h
        · rename_i hi
          exact .inr ⟨i, by omega, hi, List.mem_singleton.1 h⟩
        · cases h
    · rintro (⟨j, a, b⟩ | ⟨j, a, b, c⟩)
      · by_cases e : j = i
        · subst e; exact .inl (.inr b)
        · exact .inl (.inl (.inl ⟨j, by omega, b⟩))
      · by_cases e : j = i
        · subst e; rw [if_pos b]; exact .inr (List.mem_singleton.2 c)
        · exact .inl (.inl (.inr ⟨j, by omega, b, c⟩))
theorem leftA_mem (vs : List Int) (k : Nat) (x : Int) : x ∈ leftA vs k ↔ (∃ j, j < k ∧ x = bits .xor .i64 (vs.getD j 0) (vs.getD (k - 1 - j) 0)) ∨ (∃ j, j < k - 1 ∧ x = bits .xor .i64 (vs.getD j 0) (vs.getD (k - 2 - j) 0)) := by
  unfold leftA
  rw [leftS_mem, leftS_mem]
  simp
theorem valS_pre (k n j : Nat) (hk : k < n) (hj : j < k) : (valS n).getD j 0 = (valS k).getD j 0 := by rw [valS_at j n (by omega), valS_at j k hj]
theorem sp_mem (k n : Nat) (hk : k < n) (x : Int) : x ∈ spL (valS n) k k ↔ x ∈ leftA (valS k) k := by
  rw [spL_mem, leftA_mem]
  constructor
  · rintro (⟨j, a, b⟩ | ⟨j, a, b, c⟩)
    · exact .inl ⟨j, a, by rw [b, valS_pre k n j hk a, valS_pre k n _ hk (by omega)]⟩
    · exact .inr ⟨j, by omega, by rw [c, valS_pre k n j hk a, valS_pre k n _ hk (by omega)]⟩
  · rintro (⟨j, a, b⟩ | ⟨j, a, c⟩)
    · exact .inl ⟨j, a, by rw [b, valS_pre k n j hk a, valS_pre k n _ hk (by omega)]⟩
    · exact .inr ⟨j, by omega, by omega, by rw [c, valS_pre k n j hk (by omega), valS_pre k n _ hk (by omega)]⟩
/-- what the law asks of rows of pins -/
theorem row_facts (k n : Nat) (hk : k < n) : 0 ≤ (valS n).getD k 0 ∧ (spL (valS n) k k).contains ((valS n).getD k 0) = false ∧ ∀ x : Int, 0 ≤ x → x < (valS n).getD k 0 → (spL (valS n) k k).contains x = true := by
  rw [valS_at k n hk]
  refine ⟨by omega, ?_, fun x h0 hx => ?_⟩
  · have h := mexN_out (leftA (valS k) k)
    rw [Bool.eq_false_iff] at h ⊢
    exact fun h2 => h (List.contains_iff_mem.2 ((sp_mem k n hk _).1 (List.contains_iff_mem.1 h2)))
  · obtain ⟨y, rfl⟩ : ∃ y : Nat, x = y := ⟨x.toNat, by omega⟩
    have hy : y < mexN (leftA (valS k) k) := by omega
    exact List.contains_iff_mem.2 ((sp_mem k n hk _).2 (List.contains_iff_mem.1 (mexN_in _ y hy)))
/-- what the law asks of heaps -/
theorem take_facts (ms : List Int) (k n : Nat) (hk : k < n) (hm : ∀ i, i < ms.length → 1 ≤ ms.getD i 0) : 0 ≤ (valT ms n).getD k 0 ∧ (leftT ms (valT ms n) k ms.length).contains ((valT ms n).getD k 0) = false ∧ ∀ x : Int, 0 ≤ x → x < (valT ms n).getD k 0 → (leftT ms (valT ms n) k ms.length).contains x = true := by
  rw [leftT_pre ms k n hk hm ms.length (Nat.le_refl _), valT_at ms k n hk]
  refine ⟨by omega, mexN_out _, fun x h0 hx => ?_⟩
  obtain ⟨y, rfl⟩ : ∃ y : Nat, x = y := ⟨x.toNat, by omega⟩
  exact mexN_in _ y (by omega)
end Go.Proofs.Ytodmaomngpnboaa
