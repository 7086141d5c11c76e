/- What is saved, opened. -/
import Derived.Test.YtcoehcoohppbjaaMe
import Derived.Test.YtcoehcoohppbjaaBe
import Derived.Lib.SmallJoins
import Derived.DataReads
set_option linter.unusedVariables false
namespace Go.Proofs.Ytcoehcoohppbjaa
open Go.Joins Go.ChangeShapes Go.WideShapes Go.ChangeAt Go.RowKit Go.Deep
section
variable {H : Type} {enc : TypeId × Value → H} {P : Program} {w : World}
/-- a list of dice in a cell, opened -/
theorem dice_el {e t d sd : TypeId} {f0 : Field} (he : P.underlying e = some (.int .i64)) (ht : P.underlying t = some (.slice e)) (hc : P.cellsOf e = 1) (hs : P.underlying d = some (.struct #[f0])) (hone : oneCellFields P #[f0] = true) (hft : f0.type = t) (hC : P.cellsOf d = 1) (hsd : P.underlying sd = some (.slice d)) :
    ∀ n u z, DataW.trod enc P w 0 (fun _ => true) true n sd [u] = some z → ∃ ds : List (List Int), SlD w u ds ∧ ds.length ≤ maxLen ∧ ∀ i, i < ds.length → (ds.getD i []).length ≤ maxLen := by
  intro n0 u z hf
  rcases open_slice1 hsd hC hf with ⟨hcs, _⟩ | ⟨a, len, cap, m, n, V, D, Pl, hcs, _, hlc, hm, hmm, _, hx⟩
  · obtain rfl : u = .slice none 0 0 := by simpa using hcs
    exact ⟨[], ⟨none, 0, rfl, fun h => absurd h (by simp)⟩, Nat.zero_le _, fun i hi => absurd hi (by simp)⟩
  · obtain rfl : u = .slice (some a) len cap := by simpa using hcs
    simp only [if_true] at hmm
    subst hmm
    by_cases h0 : len = 0
    · subst h0
      exact ⟨[], ⟨some a, m, rfl, fun h => absurd h (by simp)⟩, Nat.zero_le _, fun i hi => absurd hi (by simp)⟩
    · have hX : ∀ i, ∃ fs : List Int, i < len → (Sl (Value.int .i64) 0 w (V i) fs ∧ fs.length ≤ maxLen) := fun i => by
        by_cases hi : i < len
        · obtain ⟨fs, h1, h2⟩ := die_el he ht hc hs hone hft n (V i) _ (hx i (by omega)).2
          exact ⟨fs, fun _ => ⟨h1, h2⟩⟩
        · exact ⟨[], fun h => absurd h hi⟩
      refine ⟨(List.range len).map fun i => Classical.choose (hX i), ⟨some a, m, by simp, fun _ => ⟨by simpa using hlc, ?_⟩⟩, by simp; omega, fun i hi => ?_⟩
      · have hfirst := (hx 0 (by omega)).1
        rw [show a.add 0 = a from rfl] at hfirst
        obtain ⟨hs', hb⟩ := cell_block hfirst
        refine ⟨a.block, a.off, ?_, hb, fun i hi => ?_⟩
        · cases a; simp only at hs'; subst hs'; rfl
        · have hi' : i < len := by simpa using hi
          have hcell := (hx i (by omega)).1
          have ha : a.add i = ⟨a.block, a.off + i, none⟩ := by
            cases a; simp only at hs'; subst hs'; exact Addr.add_lit _ _ _
          refine ⟨V i, by rw [← ha]; exact hcell, ?_⟩
          have := (Classical.choose_spec (hX i) hi').1
          simpa [List.getD, hi'] using this
      · have hi' : i < len := by simpa using hi
        have := (Classical.choose_spec (hX i) hi').2
        simpa [List.getD, hi'] using this
theorem open_saved {e t ts d sd S : TypeId} {f0 : Field} {flds : Array Field} {r : Reach} {b0 : Nat} {v : Value} {x : DataW H} {ps : List MemPlace} (he : P.underlying e = some (.int .i64)) (ht : P.underlying t = some (.slice e)) (hc : P.cellsOf e = 1) (hts : P.underlying ts = some .string) (hs : P.underlying d = some (.struct #[f0])) (hone : oneCellFields P #[f0] = true) (hft : f0.type = t) (hC : P.cellsOf d = 1) (hsd : P.underlying sd = some (.slice d))
    (hS : P.underlying S = some (.struct flds)) (hone2 : oneCellFields P flds = true) (hfs : flds.toList.map (fun f => f.type) = [ts, t, sd]) (hC2 : P.cellsOf S = 3)
    (hval : Value.okWide P w r b0 S v) (h : DataW.Trod enc P w 0 (fun _ => true) true S v x ps) : ∃ (s : ByteArray) (fs : List Int) (ds : List (List Int)), Vv w v s fs ds ∧ s.size ≤ maxLen ∧ fs.length ≤ maxLen ∧ ds.length ≤ maxLen ∧ ∀ i, i < ds.length → (ds.getD i []).length ≤ maxLen := by
  obtain ⟨cs, rfl, hcz⟩ := okWide_struct hS hval
  obtain ⟨l⟩ := cs
  obtain ⟨fuel, hf⟩ := h
  have hl : l.length = 3 := hcz.trans hC2
  have hf' : DataW.trod enc P w 0 (fun _ => true) true fuel S l = some (x, ps) := hf
  obtain ⟨fl⟩ := flds
  match fl, hfs with
  | [g0, g1, g2], hfs =>
    simp only [List.map_cons, List.map_nil, List.cons.injEq, and_true] at hfs
    obtain ⟨t0, t1, t2⟩ := hfs
    obtain ⟨xs, n', _, hx, _, hlen, hg⟩ := DataW.trod_struct hS hf'
    have hlen' : xs.length = 3 := hlen
    obtain ⟨o0, k0⟩ := hone_of hone2 0 g0 rfl
    obtain ⟨o1, k1⟩ := hone_of hone2 1 g1 rfl
    obtain ⟨o2, k2⟩ := hone_of hone2 2 g2 rfl
    have e0 := hg 0 g0 rfl
    have e1 := hg 1 g1 rfl
    have e2 := hg 2 g2 rfl
    rw [o0, k0, t0] at e0
    rw [o1, k1, t1] at e1
    rw [o2, k2, t2] at e2
    match l, hl, xs, hlen' with
    | [c0, c1, c2], _, [x0, x1, x2], _ =>
      obtain ⟨s, hc0, _, hss⟩ := DataW.trod_string hts (show DataW.trod enc P w 0 (fun _ => true) true n' ts [c0] = some x0 from e0)
      obtain ⟨fs, h1, h2⟩ := sl_el he ht hc n' c1 x1 e1
      obtain ⟨ds, h3, h4, h5⟩ := dice_el he ht hc hs hone hft hC hsd n' c2 x2 e2
      obtain rfl : c0 = .string s := by simpa using hc0
      exact ⟨s, fs, ds, ⟨c1, c2, rfl, h1, h3⟩, hss, h2, h4, h5⟩
end
end Go.Proofs.Ytcoehcoohppbjaa
