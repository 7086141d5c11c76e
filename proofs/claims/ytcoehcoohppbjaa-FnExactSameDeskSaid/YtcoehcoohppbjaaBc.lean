/- Desks that came in, opened. -/
import Derived.Test.YtcoehcoohppbjaaLo
import Derived.Test.YtcoehcoohppbjaaBa
import Derived.Lib.SmallJoins
import Derived.DataReads
set_option linter.unusedVariables false
namespace Go.Proofs.Ytcoehcoohppbjaa
open Go.Joins Go.ChangeShapes Go.WideShapes Go.ChangeAt Go.RowKit Go.Deep
section
variable {H : Type} {enc : TypeId × Value → H} {P : Program} {w : World}
/-- a slice's cell, opened -/
theorem slis_el {e t : TypeId} (he : P.underlying e = some (.int .i64)) (ht : P.underlying t = some (.slice e)) (hc : P.cellsOf e = 1) : ∀ n u z, DataW.trod enc P w 0 (fun _ => true) true n t [u] = some z → ∃ fs : List Int, Sl (Value.int .i64) 0 w u fs ∧ fs.length ≤ maxLen := by
  intro n0 u z hf
  rcases open_slice1 ht hc hf with ⟨hcs, _⟩ | ⟨a, len, cap, m, n, V, D, Pl, hcs, _, hlc, hm, hmm, _, hx⟩
  · obtain rfl : u = .slice none 0 0 := by simpa using hcs
    exact ⟨[], ⟨none, 0, rfl, fun h => absurd h (by simp)⟩, Nat.zero_le _⟩
  · obtain rfl : u = .slice (some a) len cap := by simpa using hcs
    simp only [if_true] at hmm
    subst hmm
    by_cases h0 : len = 0
    · subst h0
      exact ⟨[], ⟨some a, m, rfl, fun h => absurd h (by simp)⟩, Nat.zero_le _⟩
    · have hX : ∀ i, ∃ x : Int, i < len → V i = .int .i64 x := fun i => by
        by_cases hi : i < len
        · obtain ⟨x, h1, _⟩ := int_el he n (V i) _ (hx i (by omega)).2
          exact ⟨x, fun _ => h1⟩
        · exact ⟨0, fun h => absurd h hi⟩
      refine ⟨(List.range len).map fun i => Classical.choose (hX i), ⟨some a, m, by simp, fun _ => ⟨by simpa using hlc, ?_⟩⟩, by simp; omega⟩
      have hfirst := (hx 0 (by omega)).1
      rw [show a.add 0 = a from rfl] at hfirst
      obtain ⟨hs, hb⟩ := cell_block hfirst
      refine ⟨a.block, a.off, ?_, hb, fun i hi => ?_⟩
      · cases a; simp only at hs; subst hs; rfl
      · have hi' : i < len := by simpa using hi
        have hcell := (hx i (by omega)).1
        rw [Classical.choose_spec (hX i) hi'] at hcell
        have ha : a.add i = ⟨a.block, a.off + i, none⟩ := by
          cases a; simp only at hs; subst hs; exact Addr.add_lit _ _ _
        rw [← ha, hcell]
        simp [List.getD, hi']
theorem sls_el {e t sd : TypeId} {flds : Array Field} {K : Nat} (hte : P.underlying e = some (.int .i64)) (ht : P.underlying t = some (.slice e)) (hce : P.cellsOf e = 1) (he : P.underlying sd = some (.struct flds)) (hone : oneCellFields P flds = true) (hsz : flds.size = K) (hft : flds.toList.all (fun f => f.type == t) = true)
    {n : Nat} {cs : List Value} (hl : cs.length = K) {z : DataW H × List MemPlace} (h : DataW.trod enc P w 0 (fun _ => true) true n sd cs = some z) : ∀ j, j < K → ∃ u, ∃ fs : List Int, cs[j]? = some u ∧ Sl (Value.int .i64) 0 w u fs ∧ fs.length ≤ maxLen := by
  intro j hj
  obtain ⟨xs, n', _, hx, _, hlen, hg⟩ := DataW.trod_struct he h
  have hfj : flds[j]? = some (flds[j]'(by omega)) := Array.getElem?_eq_getElem (by omega)
  obtain ⟨o0, k0⟩ := hone_of hone j _ hfj
  have h1 := hg j _ hfj
  have hty : (flds[j]'(by omega)).type = t := by
    have := List.all_eq_true.1 hft (flds[j]'(by omega)) (by simp)
    simpa using this
  rw [o0, k0, hty, List.drop_eq_getElem_cons (by omega)] at h1
  have h2 : DataW.trod enc P w 0 (fun _ => true) true n' t [cs[j]'(by omega)] = xs[j]? := h1
  have h3 : xs[j]? = some (xs[j]'(by rw [hlen]; omega)) := List.getElem?_eq_getElem _
  obtain ⟨fs, e1, e2⟩ := slis_el hte ht hce n' _ _ (h2.trans h3)
  exact ⟨_, fs, List.getElem?_eq_getElem (by omega), e1, e2⟩
theorem open_desk {t e ti : TypeId} {flds : Array Field} {r : Reach} {b0 : Nat} {v : Value} {d : DataW H} {ps : List MemPlace} (hte : P.underlying e = some (.int .i64)) (hti : P.underlying ti = some (.slice e)) (hce : P.cellsOf e = 1) (he : P.underlying t = some (.struct flds)) (hone : oneCellFields P flds = true) (hsz : flds.size = 3) (hft : flds.toList.all (fun f => f.type == ti) = true) (hC : P.cellsOf t = 3)
    (hval : Value.okWide P w r b0 t v) (h : DataW.Trod enc P w 0 (fun _ => true) true t v d ps) : ∃ fs gs hs : List Int, Kv w v fs gs hs ∧ fs.length ≤ maxLen ∧ gs.length ≤ maxLen ∧ hs.length ≤ maxLen := by
  obtain ⟨cs, rfl, hc⟩ := okWide_struct he hval
  obtain ⟨l⟩ := cs
  obtain ⟨fuel, hf⟩ := h
  have hl : l.length = 3 := hc.trans hC
  have hf' : DataW.trod enc P w 0 (fun _ => true) true fuel t l = some (d, ps) := hf
  have hg := sls_el hte hti hce he hone hsz hft hl hf'
  match l, hl with
  | [c0, c1, c2], _ =>
    obtain ⟨x, fs, ex, h1, k1⟩ := hg 0 (by omega)
    obtain ⟨y, gs, ey, h2, k2⟩ := hg 1 (by omega)
    obtain ⟨z, hs, ez, h3, k3⟩ := hg 2 (by omega)
    cases ex; cases ey; cases ez
    exact ⟨fs, gs, hs, ⟨_, _, _, rfl, h1, h2, h3⟩, k1, k2, k3⟩
end
end Go.Proofs.Ytcoehcoohppbjaa
