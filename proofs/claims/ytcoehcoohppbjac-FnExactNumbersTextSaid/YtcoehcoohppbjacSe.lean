/- Structs of integers that came in, by value and in slices, opened. -/
import Derived.Test.YtcoehcoohppbjacLo
import Derived.Test.YtcoehcoohppbjacSa
import Derived.Lib.SmallJoins
import Derived.DataReads
set_option linter.unusedVariables false
namespace Go.Proofs.Ytcoehcoohppbjac
open Go.Joins Go.ChangeShapes Go.WideShapes Go.ChangeAt Go.RowKit Go.Deep
section
variable {H : Type} {enc : TypeId × Value → H} {P : Program} {w : World}
/-- the cells of a struct of integers -/
theorem ints_el {e ti : TypeId} {flds : Array Field} {K : Nat} (hti : P.underlying ti = some (.int .i64)) (he : P.underlying e = some (.struct flds)) (hone : oneCellFields P flds = true) (hsz : flds.size = K) (hft : flds.toList.all (fun f => f.type == ti) = true)
    {n : Nat} {cs : List Value} (hl : cs.length = K) {z : DataW H × List MemPlace} (h : DataW.trod enc P w 0 (fun _ => true) true n e cs = some z) : ∀ j, j < K → ∃ x : Int, cs[j]? = some (.int .i64 x) := by
  intro j hj
  obtain ⟨xs, n', _, hx, _, hlen, hg⟩ := DataW.trod_struct he h
  have hfj : flds[j]? = some (flds[j]'(by omega)) := Array.getElem?_eq_getElem (by omega)
  obtain ⟨o0, k0⟩ := hone_of hone j _ hfj
  have h1 := hg j _ hfj
  have hty : (flds[j]'(by omega)).type = ti := by
    have := List.all_eq_true.1 hft (flds[j]'(by omega)) (by simp)
    simpa using this
  rw [o0, k0, hty, List.drop_eq_getElem_cons (by omega)] at h1
  have h2 : DataW.trod enc P w 0 (fun _ => true) true n' ti [cs[j]'(by omega)] = xs[j]? := h1
  have h3 : xs[j]? = some (xs[j]'(by rw [hlen]; omega)) := List.getElem?_eq_getElem _
  obtain ⟨x, e1, _⟩ := int_el hti n' _ _ (h2.trans h3)
  exact ⟨x, by rw [List.getElem?_eq_getElem (by omega), e1]⟩
theorem float_el {e : TypeId} {k : FloatKind} (he : P.underlying e = some (.float k)) : ∀ n u z, DataW.trod enc P w 0 (fun _ => true) true n e [u] = some z → ∃ b, u = .float k b ∧ (Lit.float k b).wf = true := by
  intro n u z h
  cases n with
  | zero => simp [DataW.trod] at h
  | succ n =>
    simp only [DataW.trod, he] at h
    cases u <;> simp at h
    obtain ⟨⟨rfl, hw⟩, _⟩ := h
    exact ⟨_, rfl, hw⟩
theorem open_slK {t e ti : TypeId} {flds : Array Field} {r : Reach} {b0 : Nat} {v : Value} {d : DataW H} {ps : List MemPlace} (K : Nat) (hK : 0 < K) (hti : P.underlying ti = some (.int .i64)) (ht : P.underlying t = some (.slice e)) (he : P.underlying e = some (.struct flds)) (hone : oneCellFields P flds = true) (hC : P.cellsOf e = K) (hsz : flds.size = K) (hft : flds.toList.all (fun f => f.type == ti) = true)
    (hval : Value.okWide P w r b0 t v) (h : DataW.Trod enc P w 0 (fun _ => true) true t v d ps) :
    ∃ (n : Nat) (fs : List Int), SlK K w v n fs ∧ n ≤ maxLen := by
  obtain ⟨a0, len0, cap0, rfl⟩ := okWide_slice ht hval
  obtain ⟨fuel, hf⟩ := h
  rcases open_slice ht hf with ⟨hcs, _⟩ | ⟨a, len, cap, m, n, D, Pl, hcs, _, hlc, hm, hmm, _, hx⟩
  · simp [Value.cells] at hcs
    obtain ⟨rfl, rfl, rfl⟩ := hcs
    exact ⟨0, [], SlK.nil _ _ _ _, Nat.zero_le _⟩
  · simp [Value.cells] at hcs
    obtain ⟨rfl, rfl, rfl⟩ := hcs
    simp only [if_true] at hmm
    subst hmm
    by_cases h0 : len0 = 0
    · subst h0
      exact ⟨0, [], SlK.nil _ _ _ _, Nat.zero_le _⟩
    · have hq : ∀ i, i < len0 → ∀ j, j < K → ∃ x : Int, w.cell? ((a.add (i * K)).add j) = some (.int .i64 x) := fun i hi j hj => by
        obtain ⟨cs', hc, ht'⟩ := hx i (by omega)
        rw [hC] at hc
        obtain ⟨_, hcl, hat⟩ := World.cells?_some hc
        obtain ⟨x, e1⟩ := ints_el hti he hone hsz hft hcl ht' j hj
        exact ⟨x, (hat j hj).trans e1⟩
      obtain ⟨x0, hfirst⟩ := hq 0 (by omega) 0 hK
      rw [show (a.add (0 * K)).add 0 = a by rw [Nat.zero_mul]; rfl] at hfirst
      obtain ⟨hs, hb⟩ := cell_block hfirst
      have ha : a = ⟨a.block, a.off, none⟩ := by cases a; simp only at hs; subst hs; rfl
      have hX : ∀ q, ∃ x : Int, q < len0 * K → w.cell? ⟨a.block, a.off + q, none⟩ = some (.int .i64 x) := fun q => by
        by_cases hql : q < len0 * K
        · obtain ⟨x, hc⟩ := hq (q / K) (Nat.div_lt_of_lt_mul (by rw [Nat.mul_comm]; exact hql)) (q % K) (Nat.mod_lt _ hK)
          refine ⟨x, fun _ => ?_⟩
          rw [ha, Addr.add_lit, Addr.add_lit, Nat.add_assoc, show q / K * K + q % K = q by rw [Nat.mul_comm]; exact Nat.div_add_mod q K] at hc
          exact hc
        · exact ⟨0, fun h => absurd h hql⟩
      refine ⟨len0, (List.range (len0 * K)).map fun q => Classical.choose (hX q), ⟨by simp, some a, m, rfl, fun _ => ⟨by omega, a.block, a.off, by rw [← ha], hb, fun q hql => ?_⟩⟩, by omega⟩
      rw [Classical.choose_spec (hX q) hql]
      simp [List.getD, hql]
theorem open_v3 {t ti : TypeId} {flds : Array Field} {r : Reach} {b0 : Nat} {v : Value} {d : DataW H} {ps : List MemPlace} (hti : P.underlying ti = some (.int .i64)) (he : P.underlying t = some (.struct flds)) (hone : oneCellFields P flds = true) (hsz : flds.size = 3) (hft : flds.toList.all (fun f => f.type == ti) = true) (hC : P.cellsOf t = 3)
    (hval : Value.okWide P w r b0 t v) (h : DataW.Trod enc P w 0 (fun _ => true) true t v d ps) : ∃ x y z : Int, v = .agg #[.int .i64 x, .int .i64 y, .int .i64 z] := by
  obtain ⟨cs, rfl, hc⟩ := okWide_struct he hval
  obtain ⟨l⟩ := cs
  obtain ⟨fuel, hf⟩ := h
  have hl : l.length = 3 := hc.trans hC
  have hf' : DataW.trod enc P w 0 (fun _ => true) true fuel t l = some (d, ps) := hf
  have hg := ints_el hti he hone hsz hft hl hf'
  match l, hl with
  | [c0, c1, c2], _ =>
    obtain ⟨x, ex⟩ := hg 0 (by omega)
    obtain ⟨y, ey⟩ := hg 1 (by omega)
    obtain ⟨z, ez⟩ := hg 2 (by omega)
    cases ex; cases ey; cases ez
    exact ⟨x, y, z, rfl⟩
end
end Go.Proofs.Ytcoehcoohppbjac
