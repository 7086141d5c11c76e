/- Heaps: what HeapMove answers, as the law asks it. -/
import Derived.Test.YtodmaomngpnboaaYf
import Derived.Test.YtodmaomngpnboaaHpB
set_option linter.unusedVariables false
namespace Go.Proofs.Ytodmaomngpnboaa
open Go.RowKit

theorem mov_one {ms : List Int} (h : movB ms = true) (i : Nat) (hi : i < ms.length) : 1 ≤ ms.getD i 0 ∧ ms.getD i 0 ≤ 200 := by
  unfold movB at h
  simp only [Bool.and_eq_true] at h
  have h1 := h.2.1
  unfold allB at h1
  have := List.all_eq_true.1 h1 i (List.mem_range.2 hi)
  simp only [Bool.and_eq_true, decide_eq_true_eq] at this
  exact this
theorem allX_congr (hs vs us : List Int) : ∀ k, (∀ i, i < k → vs.getD (hs.getD i 0).toNat 0 = us.getD (hs.getD i 0).toNat 0) → allX hs vs k = allX hs us k
  | 0, _ => rfl
  | k + 1, h => by
    show bits .xor .i64 (allX hs vs k) _ = bits .xor .i64 (allX hs us k) _
    rw [allX_congr hs vs us k (fun i hi => h i (by omega)), h k (by omega)]
theorem heap_facts (hs ms : List Int) (n : Nat) (hm : movB ms = true) (hm4 : ms.length ≤ 4) (h1 : 1 ≤ hs.length) (h4 : hs.length ≤ 4) (hn : n ≤ 200) (hb : ∀ i, i < hs.length → 0 ≤ hs.getD i 0 ∧ hs.getD i 0 ≤ (n : Int)) :
    ok_HeapMove hs ms = decide (allX hs (valT ms (n + 1)) hs.length ≠ 0) ∧
    (ok_HeapMove hs ms = true → ∃ i j : Nat, i < hs.length ∧ j < ms.length ∧ res_HeapMove hs ms = (i : Int) ∧ res2_HeapMove hs ms = ms.getD j 0 ∧ ms.getD j 0 ≤ hs.getD i 0 ∧ (valT ms (n + 1)).getD (hs.getD i 0 - ms.getD j 0).toNat 0 = bits .xor .i64 (allX hs (valT ms (n + 1)) hs.length) ((valT ms (n + 1)).getD (hs.getD i 0).toNat 0)) := by
  have hv : ∀ k, k < n + 1 → (hV ms).getD k 0 = (valT ms (n + 1)).getD k 0 := fun k hk => by
    unfold hV
    rw [valT_at ms k 201 (by omega), valT_at ms k (n + 1) hk]
  have hX : allX hs (hV ms) hs.length = allX hs (valT ms (n + 1)) hs.length := allX_congr _ _ _ _ fun i hi => hv _ (by have := hb i hi; omega)
  have hm1 := fun i hi => (mov_one hm i hi).1
  have hok : okHM hs ms = true := by
    unfold okHM
    rw [hm, decide_eq_true (show 1 ≤ (hs.length : Int) by omega), decide_eq_true (show (hs.length : Int) ≤ 8 by omega)]
    show allB 0 200 hs = true
    unfold allB
    rw [List.all_eq_true]
    intro i hi
    have := hb i (List.mem_range.1 hi)
    rw [decide_eq_true (show 0 ≤ hs.getD i 0 by omega), decide_eq_true (show hs.getD i 0 ≤ 200 by omega)]; rfl
  have hhit : ∀ i j, i < hs.length → j < ms.length → (hitF hs ms i j = true ↔ ms.getD j 0 ≤ hs.getD i 0 ∧ (valT ms (n + 1)).getD (hs.getD i 0 - ms.getD j 0).toNat 0 = bits .xor .i64 (allX hs (valT ms (n + 1)) hs.length) ((valT ms (n + 1)).getD (hs.getD i 0).toNat 0)) := fun i j hi hj => by
    have h2 := hb i hi
    have h3 := hm1 j hj
    unfold hitF
    rw [hX, Bool.and_eq_true, decide_eq_true_eq, beq_iff_eq, hv (hs.getD i 0).toNat (by omega), hv (hs.getD i 0 - ms.getD j 0).toNat (by omega)]
  have hres : resHM hs ms = scI (hitF hs ms) ms.length hs.length 0 := by unfold resHM; rw [if_pos hok]
  refine ⟨?_, fun h => ?_⟩
  · unfold ok_HeapMove
    rw [hres]
    by_cases hx : allX hs (valT ms (n + 1)) hs.length = 0
    · rw [decide_eq_false (fun h => h hx)]
      cases hs2 : scI (hitF hs ms) ms.length hs.length 0 with
      | none => rfl
      | some p =>
        obtain ⟨a, b, c⟩ := scI_some _ _ hs2
        obtain ⟨d, e⟩ := (hhit p.1 p.2 (by omega) b).1 c
        have h2 := hb p.1 (by omega)
        rw [hx] at e
        have hvb := valT_bd ms hm4 (hs.getD p.1 0).toNat (n + 1) (by omega)
        obtain ⟨z, hz⟩ : ∃ z : Nat, (valT ms (n + 1)).getD (hs.getD p.1 0).toNat 0 = (z : Int) := ⟨((valT ms (n + 1)).getD (hs.getD p.1 0).toNat 0).toNat, by omega⟩
        have hxz : bits .xor .i64 0 ((valT ms (n + 1)).getD (hs.getD p.1 0).toNat 0) = (valT ms (n + 1)).getD (hs.getD p.1 0).toNat 0 := by rw [hz]; exact xr_zero z (by omega)
        rw [hxz] at e
        have hc : ((hs.getD p.1 0).toNat : Int) = hs.getD p.1 0 := by omega
        exact absurd (by rw [hc]; exact e) (val_not ms (hs.getD p.1 0).toNat (n + 1) (by omega) hm1 p.2 b (by rw [hc]; exact d))
    · rw [decide_eq_true hx]
      obtain ⟨i, hi, h5, h6⟩ := nim_any hs (valT ms (n + 1)) h1 h4 (fun i hi => valT_bd ms hm4 _ (n + 1) (by have := hb i hi; omega)) hx
      have h2 := hb i hi
      obtain ⟨j, hj, h7, h8⟩ := val_has ms (hs.getD i 0).toNat (n + 1) (by omega) hm1 _ h5 h6
      have hc : ((hs.getD i 0).toNat : Int) = hs.getD i 0 := by omega
      rw [hc] at h7 h8
      cases hs2 : scI (hitF hs ms) ms.length hs.length 0 with
      | some p => rfl
      | none =>
        have := scI_none _ _ hs2 i j (Nat.zero_le _) (by omega) hj
        rw [(hhit i j hi hj).2 ⟨h7, h8⟩] at this
        cases this
  · unfold ok_HeapMove at h
    rw [hres] at h
    unfold res_HeapMove res2_HeapMove
    rw [hres]
    cases hs2 : scI (hitF hs ms) ms.length hs.length 0 with
    | none => rw [hs2] at h; cases h
    | some p =>
      obtain ⟨a, b, c⟩ := scI_some _ _ hs2
      obtain ⟨d, e⟩ := (hhit p.1 p.2 (by omega) b).1 c
      exact ⟨p.1, p.2, by omega, b, rfl, rfl, d, e⟩
end Go.Proofs.Ytodmaomngpnboaa
