/- A slice that came in, opened: the list that it reads as. -/
import Derived.Test.YtfihnnhgegdjkaaLift
import Derived.Test.YtfihnnhgegdjkaaLk
import Derived.Deep.Slices
set_option linter.unusedVariables false
namespace Go.Proofs.Ytfihnnhgegdjkaa
open Go.ChangeShapes Go.WideShapes Go.ChangeAt Go.RowKit Go.Deep
section
variable {H : Type} {enc : TypeId × Value → H} {P : Program} {w : World}
theorem cell_block {a : Addr} {v : Value} (h : w.cell? a = some v) : a.spot = none ∧ a.block < w.heap.size := by
  unfold World.cell? at h
  split at h
  · rename_i c t r hc
    refine ⟨?_, (Array.getElem?_eq_some_iff.1 hc).1⟩
    by_cases hs : a.spot.isSome = true
    · rw [if_pos hs] at h; cases h
    · cases e : a.spot with
      | none => rfl
      | some x => rw [e] at hs; exact absurd rfl hs
  · cases h

theorem open_sl {α : Type} {t e : TypeId} {r : Reach} {b0 : Nat} {v : Value} {d : DataW H} {ps : List MemPlace} (mk : α → Value) (d0 : α) (Q : α → Prop)
    (hel : ∀ n u z, DataW.trod enc P w 0 (fun _ => true) true n e [u] = some z → ∃ x, u = mk x ∧ Q x)
    (ht : P.underlying t = some (.slice e)) (hc : P.cellsOf e = 1) (hval : Value.okWide P w r b0 t v) (h : DataW.Trod enc P w 0 (fun _ => true) true t v d ps) :
    ∃ fs : List α, Sl mk d0 w v fs ∧ (∀ x ∈ fs, Q x) ∧ fs.length ≤ maxLen := by
  obtain ⟨a0, len0, cap0, rfl⟩ := okWide_slice ht hval
  obtain ⟨fuel, hf⟩ := h
  rcases open_slice1 ht hc hf with ⟨hcs, _⟩ | ⟨a, len, cap, m, n, V, D, Pl, hcs, _, hlc, hm, hmm, _, hx⟩
  · simp [Value.cells] at hcs
    obtain ⟨rfl, rfl, rfl⟩ := hcs
    exact ⟨[], ⟨none, 0, rfl, fun h => absurd h (by simp)⟩, fun x hx => absurd hx (by simp), Nat.zero_le _⟩
  · simp [Value.cells] at hcs
    obtain ⟨rfl, rfl, rfl⟩ := hcs
    simp only [if_true] at hmm
    subst hmm
    by_cases h0 : len0 = 0
    · subst h0
      exact ⟨[], ⟨some a, m, rfl, fun h => absurd h (by simp)⟩, fun x hx => absurd hx (by simp), Nat.zero_le _⟩
    · have hX : ∀ i, ∃ x, i < len0 → (V i = mk x ∧ Q x) := fun i => by
        by_cases hi : i < len0
        · obtain ⟨x, h1, h2⟩ := hel n (V i) _ (hx i (by omega)).2
          exact ⟨x, fun _ => ⟨h1, h2⟩⟩
        · exact ⟨d0, fun h => absurd h hi⟩
      refine ⟨(List.range len0).map fun i => Classical.choose (hX i), ⟨some a, m, by simp, fun _ => ⟨by simpa using hlc, ?_⟩⟩, ?_, by simp; omega⟩
      · have hfirst := (hx 0 (by omega)).1
        rw [show a.add 0 = a from rfl] at hfirst
        obtain ⟨hs, hb⟩ := cell_block hfirst
        refine ⟨a.block, a.off, ?_, hb, fun i hi => ?_⟩
        · cases a; simp only at hs; subst hs; rfl
        · have hi' : i < len0 := by simpa using hi
          have hcell := (hx i (by omega)).1
          rw [(Classical.choose_spec (hX i) hi').1] at hcell
          have ha : a.add i = ⟨a.block, a.off + i, none⟩ := by
            cases a; simp only at hs; subst hs; exact Addr.add_lit _ _ _
          rw [← ha, hcell]
          simp [List.getD, hi']
      · intro x hx'
        simp only [List.mem_map, List.mem_range] at hx'
        obtain ⟨i, hi, rfl⟩ := hx'
        exact (Classical.choose_spec (hX i) hi).2

theorem int_el {e : TypeId} {k : IntKind} (he : P.underlying e = some (.int k)) : ∀ n u z, DataW.trod enc P w 0 (fun _ => true) true n e [u] = some z → ∃ b, u = .int k b ∧ (Lit.int k b).wf = true := by
  intro n u z h
  cases n with
  | zero => simp [DataW.trod] at h
  | succ n =>
    simp only [DataW.trod, he] at h
    cases u <;> simp at h
    obtain ⟨⟨rfl, hw⟩, _⟩ := h
    exact ⟨_, rfl, hw⟩
theorem bool_el {e : TypeId} (he : P.underlying e = some .bool) : ∀ n u z, DataW.trod enc P w 0 (fun _ => true) true n e [u] = some z → ∃ b, u = .bool b ∧ True := by
  intro n u z h
  cases n with
  | zero => simp [DataW.trod] at h
  | succ n =>
    simp only [DataW.trod, he] at h
    cases u <;> simp at h
    exact ⟨_, rfl, trivial⟩
end
end Go.Proofs.Ytfihnnhgegdjkaa
