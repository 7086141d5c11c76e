/- Contracts: decks as arrays of 52. -/
import Derived.Test.YtodmaomngpnboaaSoA
import Derived.Laws.Tables
import Derived.Deep.MidRow
import Derived.Laws.NewBlocks
import Derived.RegionTactic
import Derived.Laws.Cover3
import Derived.Laws.CopyRow
import Derived.Laws.CopyOwn
set_option linter.unusedVariables false
namespace Go.Proofs.Ytodmaomngpnboaa
open Go.RowKit

theorem und52 : Try.prog.underlying 111 = some (.array 52 2) := by kernel_rfl
theorem info52 : (Try.prog.info? 111).map (·.size) = some 52 := by kernel_rfl
def av (l : List Int) : Value := .agg (l.map (Value.int .i64)).toArray
def eqF (L M : List Int) (s n : Nat) : Bool := (List.range' s n).all fun i => decide (L.getD i 0 = M.getD i 0)
theorem forIn_eq (P : Program) (w : World) (L M : List Int) (f : Nat → (Option Bool × Unit) → Sem (ForInStep (Option Bool × Unit))) : ∀ n s, (∀ i, s ≤ i → i < s + n → (f i (none, ())).run P w = .ok (if L.getD i 0 = M.getD i 0 then .yield (none, ()) else .done (some false, ())) w) →
    (forIn (List.range' s n) ((none, ()) : Option Bool × Unit) f).run P w = .ok (if eqF L M s n = true then (none, ()) else (some false, ())) w
  | 0, s, _ => by
    rw [List.range'_zero, List.forIn_nil]
    rfl
  | n + 1, s, h => by
    rw [List.range'_succ, List.forIn_cons, Sem.run_bind, h s (Nat.le_refl _) (by omega)]
    have ih := forIn_eq P w L M f n (s + 1) (fun i h1 h2 => h i (by omega) (by omega))
    unfold eqF at ih ⊢
    rw [List.range'_succ, List.all_cons]
    by_cases e : L.getD s 0 = M.getD s 0
    · rw [if_pos e, decide_eq_true e, Bool.true_and]
      exact ih
    · rw [if_neg e, decide_eq_false e, Bool.false_and, if_neg Bool.false_ne_true]
      rfl
theorem eqF_all (L M : List Int) (n : Nat) (hL : L.length = n) (hM : M.length = n) : eqF L M 0 n = decide (L = M) := by
  unfold eqF
  by_cases e : L = M
  · rw [decide_eq_true e, List.all_eq_true]
    intro i _
    rw [e]; simp
  · rw [decide_eq_false e, Bool.eq_false_iff]
    intro h
    rw [List.all_eq_true] at h
    refine e (List.ext_getElem (hL.trans hM.symm) fun i h1 h2 => ?_)
    have := h i (by rw [List.mem_range'_1]; omega)
    rw [decide_eq_true_eq, getD_lt _ _ _ h1, getD_lt _ _ _ h2] at this
    exact this
theorem eq_int (d : Nat) (a b : Int) (w : World) : (Op.equalIn (d + 1) 2 (.int .i64 a) (.int .i64 b)).run Try.prog w = .ok (a == b) w := by
  rw [Op.equalIn]
  simp only [Sem.run_bind, run_underlying Try.underlying2, Result.andThen_ok, if_true]
  rfl
theorem eq_arr (L M : List Int) (hL : L.length = 52) (hM : M.length = 52) (w : World) : (Op.equalIn 10000 111 (av L) (av M)).run Try.prog w = .ok (decide (L = M)) w := by
  have u3 := Try.underlying2
  have a3 := Try.isAgg2
  have z3 := Try.sizeOf2
  unfold av
  rw [show (10000 : Nat) = 9999 + 1 from rfl, Op.equalIn]
  simp only [Sem.run_bind, run_underlying und52, Result.andThen_ok]
  simp only [Std.Legacy.Range.forIn_eq_forIn_range', Std.Legacy.Range.size, Nat.sub_zero, Nat.add_sub_cancel, Nat.div_one]
  go_simp
  rw [forIn_eq Try.prog w L M _ 52 0 (fun i h1 h2 => ?_)]
  · rw [eqF_all L M 52 hL hM]
    by_cases e : L = M
    · rw [decide_eq_true e, if_pos rfl]; rfl
    · rw [decide_eq_false e, if_neg Bool.false_ne_true]; rfl
  · have l1 : i < L.length := by omega
    have l2 : i < M.length := by omega
    rw [getD_lt _ _ _ l1, getD_lt _ _ _ l2]
    simp only [List.getElem?_eq_getElem l1, List.getElem?_eq_getElem l2]
    generalize L[i] = a
    generalize M[i] = b
    have he : ∀ z, (Op.equalIn 9999 2 (.int .i64 a) (.int .i64 b)).run Try.prog z = .ok (a == b) z := fun z => eq_int 9998 a b z
    by_cases e : a = b
    · subst e
      simp [a3, Sem.run_bind, he]
    · simp [a3, Sem.run_bind, he, e]
def z52 : List Int := [0, 0, 0, 0, 0, 0, 0, 0, 0, 0, 0, 0, 0, 0, 0, 0, 0, 0, 0, 0, 0, 0, 0, 0, 0, 0, 0, 0, 0, 0, 0, 0, 0, 0, 0, 0, 0, 0, 0, 0, 0, 0, 0, 0, 0, 0, 0, 0, 0, 0, 0, 0]
theorem ones_i (L : List Int) : ∀ u ∈ L.map (Value.int .i64), u.oneCell' = true := by
  intro u hu
  obtain ⟨x, _, rfl⟩ := List.mem_map.1 hu
  rfl
theorem one_allA (l : List Int) : (l.map (Value.int .i64)).toArray.all (·.oneCell') = true := all_oneCell_toArray (fun v hv => ones_i l v hv)
theorem results_arr1 {P : Program} {fn : Func} {tmps : Array Value} {W : World} {c : Nat} {T : TypeId} {ad : Addr} {v : Value} (hr : fn.results = #[.cell c T]) (h0 : tmps.getD c undef = .pointer (some ad)) (hl : (loadVar T ad).run P W = .ok v W) : (results fn tmps).run P W = .ok v W := by
  unfold results
  rw [hr]
  simp only [Array.getD_eq_getD_getElem?] at h0
  simp [asAddr, h0, hl]
theorem cells_cell {w : World} {g : Nat} {cur : List Value} {t : TypeId} (h : w.heap[g]? = some (.cells cur.toArray t (0, 0))) (j : Nat) (u : Value) (hj : cur[j]? = some u) : w.cell? ⟨g, j, none⟩ = some u := by
  unfold World.cell?
  rw [h]
  simp [hj]
/-- with zeros behind it -/
def pad52 (fs : List Int) : List Int := fs ++ List.replicate (52 - fs.length) 0
theorem pad52_len (fs : List Int) (h : fs.length ≤ 52) : (pad52 fs).length = 52 := by
  unfold pad52; rw [List.length_append, List.length_replicate]; omega
theorem pad52_inj (fs gs : List Int) (h : fs.length = gs.length) : decide (pad52 fs = pad52 gs) = decide (fs = gs) := by
  rw [decide_eq_decide]
  unfold pad52
  rw [h]
  exact ⟨fun e => List.append_cancel_right e, fun e => by rw [e]⟩
set_option maxRecDepth 100000 in
set_option maxHeartbeats 4000000 in
theorem cards_any (fs : List Int) (v : Value) (w : World) (hn : fs.length ≤ 52) (h0 : 0 < fs.length) (h : Sl (Value.int .i64) 0 w v fs) :
    Calls Try.prog 124 #[v] w fun e w' => e = .returned (av (pad52 fs)) ∧ Below w.heap.size w w' := by
  obtain ⟨p, cap, rfl, hc⟩ := h
  obtain ⟨hcap, b, off, rfl, hbs, hcell⟩ := hc h0
  obtain ⟨i0, hi, hz0, hz1, hz2⟩ := info_parts (show (Try.prog.info? 2).map (fun i => (i.zero, i.size, i.bytes)) = some (some (.int .i64 0), 1, 8) by kernel_rfl)
  obtain ⟨R, hR⟩ : ∃ R : Array Value, R = madeCells (Value.int .i64 0).cells ((52 : Int).toNat * i0.size) := ⟨_, rfl⟩
  have hRl : R.toList = List.replicate 52 (.int .i64 0) := by rw [hR, hz1, Nat.mul_one]; exact made1 _ 52
  have hmk : ∀ z : World, (Instr.makeSlice 22 (.int .i64 52) (.int .i64 52)).run Try.prog z = .ok (.slice (some ⟨z.heap.size, 0, none⟩) 52 52) (z.alloc (.cells R 2)) := fun z => by
    have := run_make (P := Try.prog) (w := z) 22 2 i0 (.int .i64 0) (by kernel_rfl) hi hz0 .i64 .i64 52 52 (by omega) (Int.le_refl _) (by rw [hz2]; omega) (by omega)
    rw [← hR] at this
    exact this
  obtain ⟨F, hF⟩ : ∃ F : World → World, ∀ z, F z = z.alloc (.cells R 2) := ⟨_, fun _ => rfl⟩
  have hmk2 : ∀ z : World, (Instr.makeSlice 22 (.int .i64 52) (.int .i64 52)).run Try.prog z = .ok (.slice (some ⟨z.heap.size, 0, none⟩) 52 52) (F z) := fun z => by rw [hF]; exact hmk z
  have HF := Lib.hid hF
  have HRl := Lib.hid hRl
  have HC := Lib.hid hcell
  clear hR hRl hi hz0 hz1 hz2 hmk hF hc hcell
  obtain ⟨W1, hW1⟩ : ∃ z, z = w.alloc (.cells (List.toArray (Value.int .i64 0 :: Value.int .i64 0 :: Value.int .i64 0 :: Value.int .i64 0 :: Value.int .i64 0 :: Value.int .i64 0 :: Value.int .i64 0 :: Value.int .i64 0 :: Value.int .i64 0 :: Value.int .i64 0 :: Value.int .i64 0 :: Value.int .i64 0 :: Value.int .i64 0 :: Value.int .i64 0 :: Value.int .i64 0 :: Value.int .i64 0 :: Value.int .i64 0 :: Value.int .i64 0 :: Value.int .i64 0 :: Value.int .i64 0 :: Value.int .i64 0 :: Value.int .i64 0 :: Value.int .i64 0 :: Value.int .i64 0 :: Value.int .i64 0 :: Value.int .i64 0 :: Value.int .i64 0 :: Value.int .i64 0 :: Value.int .i64 0 :: Value.int .i64 0 :: Value.int .i64 0 :: Value.int .i64 0 :: Value.int .i64 0 :: Value.int .i64 0 :: Value.int .i64 0 :: Value.int .i64 0 :: Value.int .i64 0 :: Value.int .i64 0 :: Value.int .i64 0 :: Value.int .i64 0 :: Value.int .i64 0 :: Value.int .i64 0 :: Value.int .i64 0 :: Value.int .i64 0 :: Value.int .i64 0 :: Value.int .i64 0 :: Value.int .i64 0 :: Value.int .i64 0 :: Value.int .i64 0 :: Value.int .i64 0 :: Value.int .i64 0 :: Value.int .i64 0 :: [])) 111) := ⟨_, rfl⟩
  have hz1 : W1.heap.size = w.heap.size + 1 := by rw [hW1]; simp
  have hg1 : W1.heap[w.heap.size]? = some (.cells (z52.map (Value.int .i64)).toArray 111 (0, 0)) := by rw [hW1]; exact World.alloc_heap_new w _
  have hb1 : Below w.heap.size w W1 := by rw [hW1]; exact (Below.refl _ w).alloc (Nat.le_refl _) _
  have hg2 : (F W1).heap[w.heap.size + 1]? = some (.cells R 2 (0, 0)) := by rw [HF.out, ← hz1]; exact World.alloc_heap_new W1 _
  have hg3 : (F W1).heap[w.heap.size]? = some (.cells (z52.map (Value.int .i64)).toArray 111 (0, 0)) := by rw [HF.out]; exact (Below.heap_alloc _ _ _ (by omega)).trans hg1
  have hb2 : Below w.heap.size w (F W1) := by rw [HF.out]; exact hb1.alloc (by omega) _
  have hlen : (fs.map (Value.int .i64)).length = fs.length := List.length_map _
  have hr := run_copy_row (P := Try.prog) (F W1) 22 22 3 2 (w.heap.size + 1) 0 52 52 ⟨b, off, none⟩ fs.length cap R 2 (fs.map (Value.int .i64)) (by kernel_rfl) (by kernel_rfl) hg2
    (by rw [hlen]; exact (Nat.min_eq_left hn).symm)
    (fun j u hu => by
      rw [List.getElem?_map] at hu
      cases hx : fs[j]? with
      | none => rw [hx] at hu; cases hu
      | some x =>
        rw [hx] at hu
        cases hu
        have hj := (List.getElem?_eq_some_iff.1 hx).1
        have := HC.out j hj
        rw [show fs.getD j 0 = x by simp [List.getD, hx]] at this
        rw [Addr.add_mid, hb2.cell (p := ⟨b, off + j, none⟩) hbs]; exact this)
    (by rw [hlen, Nat.zero_add, ← Array.length_toList, HRl.out, List.length_replicate]; exact hn) (ones_i fs)
  obtain ⟨W3, hW3⟩ : ∃ z, z = (F W1).setRow (w.heap.size + 1) (R.toList.take 0 ++ fs.map (Value.int .i64) ++ R.toList.drop (0 + (fs.map (Value.int .i64)).length)).toArray := ⟨_, rfl⟩
  rw [← hW3, hlen] at hr
  have hp : R.toList.take 0 ++ fs.map (Value.int .i64) ++ R.toList.drop (0 + (fs.map (Value.int .i64)).length) = (pad52 fs).map (Value.int .i64) := by
    rw [hlen, HRl.out, List.take_zero, List.nil_append, Nat.zero_add, List.drop_replicate]
    unfold pad52
    rw [List.map_append, List.map_replicate]
  rw [hp] at hW3
  have hg4 : W3.heap[w.heap.size + 1]? = some (.cells ((pad52 fs).map (Value.int .i64)).toArray 2 (0, 0)) := by rw [hW3]; exact setRow_heap _ _ _ _ _ _ hg2
  have hg5 : W3.heap[w.heap.size]? = some (.cells (z52.map (Value.int .i64)).toArray 111 (0, 0)) := by rw [hW3]; exact (setRow_other _ _ _ _ (by omega)).trans hg3
  have hb5 : Below w.heap.size w W3 := by rw [hW3]; exact below_setRow hb2 (by omega) _
  have hrg : W3.rangeAt (w.heap.size + 1) 0 ((pad52 fs).map (Value.int .i64)) := fun j u hj => by rw [Nat.zero_add]; exact cells_cell hg4 j u hj
  have hpl := pad52_len fs hn
  have HiL := Lib.hid (show (Try.prog.info? 111).map (·.size) = some ((pad52 fs).map (Value.int .i64)).length by rw [List.length_map, hpl]; exact info52)
  have HiA := Lib.hid (show (Try.prog.info? 111).map (·.size) = some ((pad52 fs).map (Value.int .i64)).toArray.size by rw [List.size_toArray, List.length_map, hpl]; exact info52)
  have HsA := Lib.hid (show (z52.map (Value.int .i64)).toArray.size = ((pad52 fs).map (Value.int .i64)).toArray.size by rw [List.size_toArray, List.size_toArray, List.length_map, List.length_map, hpl]; rfl)
  have HO := Lib.hid (one_allA (pad52 fs))
  have HG5 := Lib.hid hg5
  have HRG := Lib.hid hrg
  have HB6 := Lib.hid (below_setRow hb5 (Nat.le_refl _) ((pad52 fs).map (Value.int .i64)).toArray)
  have HG6 := Lib.hid (setRow_heap W3 w.heap.size _ ((pad52 fs).map (Value.int .i64)).toArray _ _ hg5)
  have hgo : goInt fs.length = .int .i64 (fs.length : Int) := rfl
  rw [hW1] at hr
  have hsz : (F (w.alloc (.cells (List.toArray (Value.int .i64 0 :: Value.int .i64 0 :: Value.int .i64 0 :: Value.int .i64 0 :: Value.int .i64 0 :: Value.int .i64 0 :: Value.int .i64 0 :: Value.int .i64 0 :: Value.int .i64 0 :: Value.int .i64 0 :: Value.int .i64 0 :: Value.int .i64 0 :: Value.int .i64 0 :: Value.int .i64 0 :: Value.int .i64 0 :: Value.int .i64 0 :: Value.int .i64 0 :: Value.int .i64 0 :: Value.int .i64 0 :: Value.int .i64 0 :: Value.int .i64 0 :: Value.int .i64 0 :: Value.int .i64 0 :: Value.int .i64 0 :: Value.int .i64 0 :: Value.int .i64 0 :: Value.int .i64 0 :: Value.int .i64 0 :: Value.int .i64 0 :: Value.int .i64 0 :: Value.int .i64 0 :: Value.int .i64 0 :: Value.int .i64 0 :: Value.int .i64 0 :: Value.int .i64 0 :: Value.int .i64 0 :: Value.int .i64 0 :: Value.int .i64 0 :: Value.int .i64 0 :: Value.int .i64 0 :: Value.int .i64 0 :: Value.int .i64 0 :: Value.int .i64 0 :: Value.int .i64 0 :: Value.int .i64 0 :: Value.int .i64 0 :: Value.int .i64 0 :: Value.int .i64 0 :: Value.int .i64 0 :: Value.int .i64 0 :: Value.int .i64 0 :: Value.int .i64 0 :: [])) 111))).heap.size = w.heap.size + 2 := by rw [← hW1, HF.out]; simp [hz1]
  have hat : ∀ z, (Instr.arrayAt 111 (.slice (some ⟨w.heap.size + 1, 0, none⟩) 52 52)).run Try.prog z = .ok (.pointer (some ⟨w.heap.size + 1, 0, none⟩)) z := fun z => run_arrayAt z 111 _ 52 _ 52 52 und52 (Nat.le_refl _)
  clear hW1 hz1 hg1 hb1 hg2 hg3 hb2 hlen hW3 hp hg4 hg5 hb5 hrg hpl HF HRl HC hsz
  go_enter Try.func124, Try.ntmps124
  go_wp2_with (first | (refine wpList_load_mid (op := ⟨some 10, .load 111 _, _, _, _, _⟩) rfl 111 (.tmp 9) rfl (w.heap.size + 1) 0 rfl ((pad52 fs).map (Value.int .i64)) _ HRG.out und52 rfl HiL.out ?_) | (refine wpList_store_row (o := ⟨none, .store 111 _ _, _, _, _, _⟩) rfl 111 (.tmp 2) (.tmp 10) rfl w.heap.size ((pad52 fs).map (Value.int .i64)).toArray rfl rfl 111 _ HG5.out HiA.out HsA.out HO.out ?_))
  have hlV := run_loadVar_mid (P := Try.prog) (W3.setRow w.heap.size ((pad52 fs).map (Value.int .i64)).toArray) w.heap.size 0 111 ((pad52 fs).map (Value.int .i64)) _ (fun j u hj => by rw [Nat.zero_add]; exact cells_cell HG6.out j u hj) und52 rfl HiL.out
  refine bodyPost_ret_by (v := av (pad52 fs)) ?_ rfl ⟨rfl, HB6.out⟩
  exact results_arr1 Try.results124 rfl hlV
end Go.Proofs.Ytodmaomngpnboaa
