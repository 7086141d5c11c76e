/- Contracts: IsPaired, the program whole; what the model asks, as the program's answer (pure). -/
import Derived.Test.YtolmhnekfokpdacItG
set_option linter.unusedVariables false
namespace Go.Proofs.Ytolmhnekfokpdac
open Go.RowKit Go.Shelf
attribute [local go_sem] Oper.semAt_some

theorem kind_bd (fs : List Int) (k c j : Nat) (hk : 1 ≤ k) : 0 ≤ kindG fs k c j ∧ kindG fs k c j < k := by
  unfold kindG
  exact ⟨Int.emod_nonneg _ (by omega), Int.emod_lt_of_pos _ (by omega)⟩
theorem take_tab (g : Nat → Int) (k j : Nat) (h : j ≤ k) : (tab k g).take j = tab j g := by
  unfold tab
  rw [← List.map_take, List.take_range, Nat.min_eq_left h]
theorem mem_tab (g : Nat → Int) (j : Nat) (x : Int) : (tab j g).contains x = true ↔ ∃ q, q < j ∧ g q = x := by
  unfold tab
  rw [List.contains_iff_mem, List.mem_map]
  exact ⟨fun ⟨q, h1, h2⟩ => ⟨q, List.mem_range.1 h1, h2⟩, fun ⟨q, h1, h2⟩ => ⟨q, List.mem_range.2 h1, h2⟩⟩
theorem pairG_iff (fs : List Int) (k c : Nat) (hk : 1 ≤ k) : pairG fs k c = true ↔ ∀ j, j < k → ∀ q, q < j → kindG fs k c q ≠ kindG fs k c j := by
  constructor
  · intro h j hj q hq e
    have := (goodAt_bd (ordB_at h j (by rw [tab_len]; exact hj))).2.2
    rw [tab_get _ _ _ hj, take_tab _ _ _ (by omega), Bool.eq_false_iff] at this
    exact this ((mem_tab _ _ _).2 ⟨q, hq, e⟩)
  · intro h
    refine ordB_good _ (fun j hj => ?_)
    rw [tab_len] at hj
    have hb := kind_bd fs k c j hk
    rw [goodAt_in _ _ (by rw [tab_get _ _ _ hj]; exact hb.1) (by rw [tab_get _ _ _ hj, tab_len]; exact hb.2), tab_get _ _ _ hj, take_tab _ _ _ (by omega), Bool.not_eq_true', Bool.eq_false_iff]
    intro hm
    obtain ⟨q, hq, e⟩ := (mem_tab _ _ _).1 hm
    exact h j hj q hq e
theorem pair_bad (fs : List Int) (k cnt i p : Nat) (hk : 1 ≤ k) (hi : i < cnt * k) (hp : p < i) (hp2 : i - i % k ≤ p) (he : fs.getD p 0 % (k : Int) = fs.getD i 0 % (k : Int)) :
    (List.range cnt).all (pairG fs k) = false := by
  rw [List.all_eq_false]
  have hc : i / k < cnt := Nat.div_lt_of_lt_mul (by rw [Nat.mul_comm]; exact hi)
  have hm := Nat.mod_lt i (show 0 < k by omega)
  have hd := Nat.div_add_mod i k
  rw [Nat.mul_comm] at hd
  refine ⟨i / k, List.mem_range.2 hc, fun h => ?_⟩
  refine (pairG_iff fs k (i / k) hk).1 h (i % k) hm (p - i / k * k) (by omega) ?_
  unfold kindG
  rw [show i / k * k + (p - i / k * k) = p by omega, hd]
  exact he
theorem pair_good (fs : List Int) (k cnt : Nat) (hk : 1 ≤ k) (h : ∀ i, i < cnt * k → ∀ p, p < i → i - i % k ≤ p → ¬ fs.getD p 0 % (k : Int) = fs.getD i 0 % (k : Int)) :
    (List.range cnt).all (pairG fs k) = true := by
  rw [List.all_eq_true]
  intro c hc
  have hc := List.mem_range.1 hc
  rw [pairG_iff fs k c hk]
  intro j hj q hq
  have h1 : (c + 1) * k ≤ cnt * k := Nat.mul_le_mul_right k hc
  rw [Nat.add_mul, Nat.one_mul] at h1
  have h2 : (c * k + j) % k = j := by rw [Nat.add_comm, Nat.add_mul_mod_self_right, Nat.mod_eq_of_lt hj]
  exact h (c * k + j) (by omega) (c * k + q) (by omega) (by rw [h2]; omega)

theorem impl_IsPaired (fs : List Int) (v : Value) (a : Int) (w : World) (hn : fs.length ≤ 1048576) (h : Sl (Value.int .i64) 0 w v fs) :
    Calls Try.prog 33 #[v, .int .i64 a] w fun e w' => e = .returned (.tuple #[.bool (res_IsPaired fs a), .bool (ok_IsPaired fs a)]) ∧ Below w.heap.size w w' := by
  unfold res_IsPaired ok_IsPaired
  refine (callsIn_wide (n := 3)).1 ?_
  cases hd : deckB fs
  · exact paired_b1 fs a v w hn hd h
  · obtain ⟨l1, l2, -⟩ := deckB_len hd
    by_cases hk : 1 ≤ a
    · obtain ⟨k, rfl⟩ : ∃ k : Nat, a = (k : Int) := ⟨a.toNat, by omega⟩
      by_cases hq : (fs.length : Int) % (k : Int) = 0
      · rw [decide_eq_true hk, decide_eq_true hq]
        simp only [Bool.and_true, Bool.true_and, Int.toNat_natCast]
        have hq2 : fs.length % k = 0 := by exact_mod_cast hq
        have hf : fs.length = fs.length / k * k := by have := Nat.div_add_mod fs.length k; rw [Nat.mul_comm] at this; omega
        have hkl : k ≤ fs.length := Nat.le_of_dvd (by omega) (Nat.dvd_of_mod_eq_zero hq2)
        obtain ⟨p, cap, rfl, hh⟩ := id h
        obtain ⟨hc, b, off, rfl, -, -⟩ := hh (by omega)
        exact paired_in fs k (fs.length / k) b off cap w (by omega) (by omega) hd hf hc h
      · rw [decide_eq_true hk, decide_eq_false hq]
        exact paired_b3 fs k v w hn hd (by omega) hq h
    · rw [decide_eq_false hk]
      exact paired_b2 fs a v w hn hd (by omega) h
end Go.Proofs.Ytolmhnekfokpdac
