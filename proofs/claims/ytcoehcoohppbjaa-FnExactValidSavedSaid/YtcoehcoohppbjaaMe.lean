/- Dice that came in, opened. -/
import Derived.Test.YtcoehcoohppbjaaLo
import Derived.Test.YtcoehcoohppbjaaMd
import Derived.Lib.SmallJoins
set_option linter.unusedVariables false
namespace Go.Proofs.Ytcoehcoohppbjaa
open Go.Joins Go.ChangeShapes Go.WideShapes Go.ChangeAt Go.RowKit Go.Deep
section
variable {H : Type} {enc : TypeId × Value → H} {P : Program} {w : World}
/-- a slice's cell, opened -/
theorem sl_el {e t : TypeId} (he : P.underlying e = some (.int .i64)) (ht : P.underlying t = some (.slice e)) (hc : P.cellsOf e = 1) : ∀ n u z, DataW.trod enc P w 0 (fun _ => true) true n t [u] = some z → ∃ fs : List Int, Sl (Value.int .i64) 0 w u fs ∧ fs.length ≤ maxLen := by
  intro n0 u z hf
  rcases open_slice1 ht hc hf with ⟨hcs, _⟩ | ⟨a, len, cap, m, n, V, D, Pl, hcs, _, hlc, hm, hmm, _, hx⟩
  · obtain rfl : u = .slice none 0 0 := by simpa using hcs
    exact ⟨[], ⟨none, 0, rfl, fun h => absurd h (by simp)⟩, Nat.zero_le _⟩
  · obtain rfl : u = .slice (some a) len cap := by simpa using hcs
    simp only [if_true] at hmm
    subst hmm
    by_cases h0 : len = 0
    · subst h0
      exact ⟨[], ⟨some a, m, rfl, fun h => absurd h (by simp)⟩, Nat.zero_le _⟩
    · have hX : ∀ i, ∃ x : Int, i < len → V i = .int .i64 x := fun i => by
        by_cases hi : i < len
        · obtain ⟨x, h1, _⟩ := int_el he n (V i) _ (hx i (by omega)).2
          exact ⟨x, fun _ => h1⟩
        · exact ⟨0, fun h => absurd h hi⟩
      refine ⟨(List.range len).map fun i => Classical.choose (hX i), ⟨some a, m, by simp, fun _ => ⟨by simpa using hlc, ?_⟩⟩, by simp; omega⟩
      have hfirst := (hx 0 (by omega)).1
      rw [show a.add 0 = a from rfl] at hfirst
      obtain ⟨hs, hb⟩ := cell_block hfirst
      refine ⟨a.block, a.off, ?_, hb, fun i hi => ?_⟩
      · cases a; simp only at hs; subst hs; rfl
      · have hi' : i < len := by simpa using hi
        have hcell := (hx i (by omega)).1
        rw [Classical.choose_spec (hX i) hi'] at hcell
        have ha : a.add i = ⟨a.block, a.off + i, none⟩ := by
          cases a; simp only at hs; subst hs; exact Addr.add_lit _ _ _
        rw [← ha, hcell]
        simp [List.getD, hi']
/-- a die's cell, opened -/
theorem die_el {e t d : TypeId} {f0 : Field} (he : P.underlying e = some (.int .i64)) (ht : P.underlying t = some (.slice e)) (hc : P.cellsOf e = 1) (hs : P.underlying d = some (.struct #[f0])) (hone : oneCellFields P #[f0] = true) (hft : f0.type = t) : ∀ n u z, DataW.trod enc P w 0 (fun _ => true) true n d [u] = some z → ∃ fs : List Int, Sl (Value.int .i64) 0 w u fs ∧ fs.length ≤ maxLen := by
  intro n0 u z hf
  obtain ⟨xs, n, _, hx, _, hlen, hg⟩ := DataW.trod_struct hs hf
  obtain ⟨o0, k0⟩ := hone_of hone 0 f0 rfl
  have h1 := hg 0 f0 rfl
  rw [o0, k0] at h1
  match xs, hlen with
  | [y], _ =>
    rw [hft] at h1
    exact sl_el he ht hc n u y (by simpa using h1)
theorem open_die {e t d : TypeId} {f0 : Field} {r : Reach} {b0 : Nat} {v : Value} {x : DataW H} {ps : List MemPlace} (he : P.underlying e = some (.int .i64)) (ht : P.underlying t = some (.slice e)) (hc : P.cellsOf e = 1) (hs : P.underlying d = some (.struct #[f0])) (hone : oneCellFields P #[f0] = true) (hft : f0.type = t) (hC : P.cellsOf d = 1)
    (hv : Value.okWide P w r b0 d v) (h : DataW.Trod enc P w 0 (fun _ => true) true d v x ps) : ∃ fs : List Int, Dv w v fs ∧ fs.length ≤ maxLen := by
  obtain ⟨cs, rfl, hsz⟩ := okWide_struct hs hv
  obtain ⟨l⟩ := cs
  match l, hsz.trans hC with
  | [c0], _ =>
    obtain ⟨fuel, hf⟩ := h
    obtain ⟨fs, h1, h2⟩ := die_el he ht hc hs hone hft fuel c0 _ hf
    exact ⟨fs, ⟨c0, rfl, h1⟩, h2⟩
theorem open_dice {e t d sd : TypeId} {f0 : Field} {r : Reach} {b0 : Nat} {v : Value} {x : DataW H} {ps : List MemPlace} (he : P.underlying e = some (.int .i64)) (ht : P.underlying t = some (.slice e)) (hc : P.cellsOf e = 1) (hs : P.underlying d = some (.struct #[f0])) (hone : oneCellFields P #[f0] = true) (hft : f0.type = t) (hC : P.cellsOf d = 1) (hsd : P.underlying sd = some (.slice d))
    (hv : Value.okWide P w r b0 sd v) (h : DataW.Trod enc P w 0 (fun _ => true) true sd v x ps) : ∃ ds : List (List Int), SlD w v ds ∧ ds.length ≤ maxLen ∧ ∀ i, i < ds.length → (ds.getD i []).length ≤ maxLen := by
  obtain ⟨a0, len0, cap0, rfl⟩ := okWide_slice hsd hv
  obtain ⟨fuel, hf⟩ := h
  rcases open_slice1 hsd hC hf with ⟨hcs, _⟩ | ⟨a, len, cap, m, n, V, D, Pl, hcs, _, hlc, hm, hmm, _, hx⟩
  · simp [Value.cells] at hcs
    obtain ⟨rfl, rfl, rfl⟩ := hcs
    exact ⟨[], ⟨none, 0, rfl, fun h => absurd h (by simp)⟩, Nat.zero_le _, fun i hi => absurd hi (by simp)⟩
  · simp [Value.cells] at hcs
    obtain ⟨rfl, rfl, rfl⟩ := hcs
    simp only [if_true] at hmm
    subst hmm
    by_cases h0 : len0 = 0
    · subst h0
      exact ⟨[], ⟨some a, m, rfl, fun h => absurd h (by simp)⟩, Nat.zero_le _, fun i hi => absurd hi (by simp)⟩
    · have hX : ∀ i, ∃ fs : List Int, i < len0 → (Sl (Value.int .i64) 0 w (V i) fs ∧ fs.length ≤ maxLen) := fun i => by
        by_cases hi : i < len0
        · obtain ⟨fs, h1, h2⟩ := die_el he ht hc hs hone hft n (V i) _ (hx i (by omega)).2
          exact ⟨fs, fun _ => ⟨h1, h2⟩⟩
        · exact ⟨[], fun h => absurd h hi⟩
      refine ⟨(List.range len0).map fun i => Classical.choose (hX i), ⟨some a, m, by simp, fun _ => ⟨by simpa using hlc, ?_⟩⟩, by simp; omega, fun i hi => ?_⟩
      · have hfirst := (hx 0 (by omega)).1
        rw [show a.add 0 = a from rfl] at hfirst
        obtain ⟨hs', hb⟩ := cell_block hfirst
        refine ⟨a.block, a.off, ?_, hb, fun i hi => ?_⟩
        · cases a; simp only at hs'; subst hs'; rfl
        · have hi' : i < len0 := by simpa using hi
          have hcell := (hx i (by omega)).1
          have ha : a.add i = ⟨a.block, a.off + i, none⟩ := by
            cases a; simp only at hs'; subst hs'; exact Addr.add_lit _ _ _
          refine ⟨V i, by rw [← ha]; exact hcell, ?_⟩
          have := (Classical.choose_spec (hX i) hi').1
          simpa [List.getD, hi'] using this
      · have hi' : i < len0 := by simpa using hi
        have := (Classical.choose_spec (hX i) hi').2
        simpa [List.getD, hi'] using this
end
end Go.Proofs.Ytcoehcoohppbjaa
