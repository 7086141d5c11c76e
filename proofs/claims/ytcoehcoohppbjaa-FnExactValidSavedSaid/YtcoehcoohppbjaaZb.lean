/- Contracts: hands of tiles, the program: tileHandOf. -/
import Derived.Test.YtcoehcoohppbjaaZa
import Derived.Test.YtcoehcoohppbjaaYr
import Derived.Laws.Tables
import Derived.Deep.MidRow
import Derived.Laws.NewBlocks
import Derived.RegionTactic
import Derived.StillTailTactics
import Derived.Laws.Cover3
import Derived.Deep.RegionLawGrows
set_option linter.unusedVariables false
namespace Go.Proofs.Ytcoehcoohppbjaa
open Go.RowKit

/-- a block that holds nine numbers -/
def Bk (w : World) (g : Nat) (l : List Int) : Prop := w.heap[g]? = some (.cells (l.map (Value.int .i64)).toArray 130 (0, 0))
theorem Bk.lt {w : World} {g : Nat} {l : List Int} (h : Bk w g l) : g < w.heap.size := (Array.getElem?_eq_some_iff.1 h).1
theorem Bk.cell {w : World} {g : Nat} {l : List Int} (h : Bk w g l) (i : Nat) (hi : i < l.length) : w.cell? ⟨g, i, none⟩ = some (.int .i64 (l.getD i 0)) := by
  refine cells_cell h i _ ?_
  rw [List.getElem?_map, List.getElem?_eq_getElem hi, getD_lt l 0 i hi]; rfl
theorem Bk.frozen {w : World} {g : Nat} {l : List Int} (h : Bk w g l) (i : Nat) : w.frozen? ⟨g, i, none⟩ = false := by
  unfold World.frozen?
  unfold Bk at h
  rw [h]
  simp
theorem Bk.keep {w w' : World} {g : Nat} {l : List Int} (h : Bk w g l) (hk : w'.heap[g]? = w.heap[g]?) : Bk w' g l := hk.trans h
theorem Bk.later {w w' : World} {g n : Nat} {l : List Int} (h : Bk w g l) (hb : Below n w w') (hn : g < n) : Bk w' g l := (hb.block g hn).trans h
theorem Bk.set {w : World} {g : Nat} {l : List Int} (h : Bk w g l) (i : Nat) (x : Int) : Bk (w.setCell ⟨g, i, none⟩ (.int .i64 x)) g (l.set i x) := by
  unfold Bk
  rw [setCell_eq_setRow w g i _ _ _ (.int .i64 x) h, setRow_heap w g _ _ _ _ h]
  congr 2
  simp
theorem Bk.range {w : World} {g : Nat} {l : List Int} (h : Bk w g l) : w.rangeAt g 0 (l.map (Value.int .i64)) := by
  intro j v hj
  rw [Nat.zero_add]
  exact cells_cell h j v hj
theorem Bk.new (w : World) (l : List Int) : Bk (w.alloc (.cells (l.map (Value.int .i64)).toArray 130)) w.heap.size l := by
  show (w.heap.push _)[w.heap.size]? = _
  simp
theorem Bk.row {w : World} {g : Nat} {l l' : List Int} (h : Bk w g l) : Bk (w.setRow g (l'.map (Value.int .i64)).toArray) g l' := setRow_heap w g _ _ _ _ h
def zs9 : List Int := [0, 0, 0, 0, 0, 0, 0, 0, 0]
def hv (l : List Int) : Value := .agg (l.map (Value.int .i64)).toArray
theorem one_all (l : List Int) : (l.map (Value.int .i64)).toArray.all (·.oneCell') = true := all_oneCell_toArray (fun v hv => by obtain ⟨x, -, rfl⟩ := List.mem_map.1 hv; rfl)
theorem infoTH : (Try.prog.info? 130).map (·.size) = some 9 := by kernel_rfl
theorem undTH : Try.prog.underlying 130 = some (.array 9 2) := by kernel_rfl
section
variable {P : Program}
theorem results_arr {fn : Func} {tmps : Array Value} {W : World} {c i j : Nat} {T : TypeId} {ad : Addr} {v x y : Value} (hr : fn.results = #[.cell c T, .tmp i, .tmp j]) (h0 : tmps.getD c undef = .pointer (some ad)) (hl : (loadVar T ad).run P W = .ok v W)
    (hi : tmps.getD i undef = x) (hj : tmps.getD j undef = y) : (results fn tmps).run P W = .ok (.tuple #[v, x, y]) W := by
  unfold results
  rw [hr]
  simp only [Array.getD_eq_getD_getElem?] at h0 hi hj
  simp [asAddr, h0, hl, hi, hj]
theorem step_load_mid {ops : Array Oper} {o : Oper} {a : Act} {w : World} {K : Act → World → Prop} {Q : Exit → Act → World → Prop} {E : Prop} (hgd : o.guard = none) (ty : TypeId) (x : Operand) (ho : o.op = .load ty x)
    (b of' : Nat) (hx : a.eval x = .pointer (some ⟨b, of', none⟩)) (cs : List Value) (d : TypeDesc) (hc : w.rangeAt b of' cs)
    (hu : P.underlying ty = some d) (hd : d.isRow = true) (hi : (P.info? ty).map (·.size) = some cs.length)
    (h : K (a.put o.dst (.agg cs.toArray)) w) : if Region.wanted o (yielded ops a.tmps) = true then Oper.wp P o a w K Q else E := by
  have hw : Region.wanted o (yielded ops a.tmps) = true := by simp [Region.wanted, hgd]
  rw [if_pos hw]
  exact wp_load_mid ty x ho b of' hx cs d hc hu hd hi h
theorem still_load_mid {ops : Array Oper} {rest : List Oper} {o : Oper} {a : Act} {w : World} {Q : Act → Prop} (hgd : o.guard = none) (ty : TypeId) (x : Operand) (ho : o.op = .load ty x)
    (b of' : Nat) (hx : a.eval x = .pointer (some ⟨b, of', none⟩)) (cs : List Value) (d : TypeDesc) (hc : w.rangeAt b of' cs)
    (hu : P.underlying ty = some d) (hd : d.isRow = true) (hi : (P.info? ty).map (·.size) = some cs.length)
    (h : wpStill P ops w Q rest (a.put o.dst (.agg cs.toArray))) : wpStill P ops w Q (o :: rest) a := by
  refine wpStill_step fun K hK => ?_
  have hw : Region.wanted o (yielded ops a.tmps) = true := by simp [Region.wanted, hgd]
  rw [if_pos hw]
  unfold Oper.still execOp
  simp only [ho, hx, Instr.loadAt, Instr.sureAddr, Sem.run_bind, Sem.run_pure, Result.andThen_ok, run_loadVar_mid w b of' ty cs d hc hu hd hi]
  exact ⟨rfl, hK _ h⟩
theorem step_store_row {ops : Array Oper} {o : Oper} {a : Act} {w : World} {K : Act → World → Prop} {Q : Exit → Act → World → Prop} {E : Prop} (hgd : o.guard = none) (ty : TypeId) (x y : Operand) (ho : o.op = .store ty x y)
    (g : Nat) (cells : Array Value) (hx : a.eval x = .pointer (some ⟨g, 0, none⟩)) (hy : a.eval y = .agg cells)
    (t : TypeId) (old : Array Value) (hg : w.heap[g]? = some (.cells old t (0, 0))) (hi : (P.info? ty).map (·.size) = some cells.size)
    (hold : old.size = cells.size) (h1 : cells.all (·.oneCell') = true)
    (h : K (a.put o.dst undef) (w.setRow g cells)) : if Region.wanted o (yielded ops a.tmps) = true then Oper.wp P o a w K Q else E := by
  have hw : Region.wanted o (yielded ops a.tmps) = true := by simp [Region.wanted, hgd]
  rw [if_pos hw]
  exact wp_store_row ty x y ho g cells hx hy t old hg hi hold h1 h
end
set_option maxRecDepth 100000 in
set_option maxHeartbeats 2000000 in
theorem handOf_yes (fs : List Int) (v : Value) (w : World) (h : Sl (Value.int .i64) 0 w v fs) (hb : tileB fs = true) :
    Calls Try.prog 122 #[v] w fun e w' => e = .returned (.tuple #[hv fs, .int .i64 (sumI fs fs.length), .bool true]) ∧ Below w.heap.size w w' := by
  obtain ⟨h9, hbd, h14⟩ := tileB_at hb
  have HA := Lib.hid (fun z (hz : Below w.heap.size w z) => areW_any fs v 0 4 z (by omega) (h.later hz))
  rw [allB_of hbd] at HA
  have HS := Lib.hid (fun z (hz : Below w.heap.size w z) => sumOf_any fs v z (by omega) hbd (h.later hz))
  obtain ⟨p, cap, rfl, hf⟩ := h
  obtain ⟨hcap, b, off, rfl, hbs, hc⟩ := hf (by omega)
  have HR := Lib.hid (fun z (hz : Below w.heap.size w z) => show z.rangeAt b off (fs.map (Value.int .i64)) from fun j u hj => by
    rw [List.getElem?_map] at hj
    cases hx : fs[j]? with
    | none => rw [hx] at hj; cases hj
    | some x =>
      rw [hx] at hj
      cases hj
      have := hc j (List.getElem?_eq_some_iff.1 hx).1
      rw [show fs.getD j 0 = x by simp [List.getD, hx]] at this
      rw [hz.cell hbs]; exact this)
  have H9 := Lib.hid h9
  have HO := Lib.hid (one_all fs)
  have HN := Lib.hid (Bk.new w zs9)
  have HW : Hid (Below w.heap.size w (w.alloc (.cells (zs9.map (Value.int .i64)).toArray 130))) := Lib.hid ((Below.refl _ w).alloc (Nat.le_refl _) _)
  rw [h9] at HA HS ⊢
  generalize hsum : sumI fs 9 = S at *
  have h14' : S ≤ 14 := by rw [← hsum, ← h9]; exact h14
  have d14 : decide (14 < S) = false := decide_eq_false (by omega)
  clear hf hc hbd h14 hb hsum h9 h14'
  go_enter Try.func122, Try.ntmps122
  go_wp2_with (first | (go_at_call 153; (refine (HA.out _ HW.out).mono ?_); rintro e w1 ⟨rfl, hb⟩; have HN1 := Lib.hid (HN.out.later hb (by simp)); have Hb := Lib.hid (HW.out.trans (hb.mono HW.out.size)); clear hb) | (go_at_call 154; (refine (HS.out _ Hb.out).mono ?_); rintro e w3 ⟨rfl, rfl⟩))
  have hlen : (fs.map (Value.int .i64)).length = 9 := by rw [List.length_map]; exact H9.out
  have Hr1 := Lib.hid (show w1.drew.rangeAt b off (fs.map (Value.int .i64)) from HR.out w1.drew Hb.out.drew)
  have Hg1 := Lib.hid (show w1.drew.heap[w.heap.size]? = some (.cells (zs9.map (Value.int .i64)).toArray 130 (0, 0)) from HN1.out)
  have HiL := Lib.hid (show (Try.prog.info? 130).map (·.size) = some (fs.map (Value.int .i64)).length by rw [hlen]; exact infoTH)
  have HiA := Lib.hid (show (Try.prog.info? 130).map (·.size) = some (fs.map (Value.int .i64)).toArray.size by rw [List.size_toArray, hlen]; exact infoTH)
  have HsA := Lib.hid (show (zs9.map (Value.int .i64)).toArray.size = (fs.map (Value.int .i64)).toArray.size by rw [List.size_toArray, List.size_toArray, hlen]; rfl)
  have HB2 : Hid (Bk (w1.drew.setRow w.heap.size (fs.map (Value.int .i64)).toArray) w.heap.size fs) := Lib.hid (setRow_heap w1.drew w.heap.size _ _ _ _ Hg1.out)
  have HB3 : Hid (Below w.heap.size w (w1.drew.setRow w.heap.size (fs.map (Value.int .i64)).toArray)) := Lib.hid (below_setRow Hb.out.drew (Nat.le_refl _) _)
  have HS1 := Lib.hid ((HS.out w1.drew Hb.out.drew).mono (fun e z h => (⟨h.1, h.2.symm⟩ : e = .returned (.int .i64 S) ∧ z = w1.drew)))
  clear hlen
  have hat : ∀ w, (Instr.arrayAt 130 (.slice (some ⟨b, off, none⟩) 9 cap)).run Try.prog w = .ok (.pointer (some ⟨b, off, none⟩)) w := fun w => run_arrayAt w 130 _ 9 _ 9 cap undTH (Nat.le_refl _)
  go_wp2_with fail
  refine wp_region_still_tail 5 (by kernel_rfl) (by kernel_rfl) ?_
  simp only [List.take_succ_cons, List.take_zero, List.drop_succ_cons, List.drop_zero]
  still_step
  still_step
  refine still_load_mid rfl 130 (.tmp 20) rfl b off rfl (fs.map (Value.int .i64)) _ Hr1.out undTH rfl HiL.out ?_
  still_step
  still_call HS1.out
  refine wpStill_nil ?_
  change wpList _ _ _ _ _ w1.drew
  go_wp2_with (refine wpList_store_row (o := ⟨none, .store _ _ _, _, _, _, _⟩) rfl 130 (.tmp 2) (.tmp 21) rfl w.heap.size (fs.map (Value.int .i64)).toArray rfl rfl 130 _ Hg1.out HiA.out HsA.out HO.out ?_)
  have hlV := run_loadVar_mid (P := Try.prog) (w1.drew.setRow w.heap.size (fs.map (Value.int .i64)).toArray) w.heap.size 0 130 (fs.map (Value.int .i64)) _ HB2.out.range undTH rfl HiL.out
  refine bodyPost_ret_by (v := .tuple #[hv fs, .int .i64 S, .bool true]) ?_ rfl ⟨rfl, HB3.out⟩
  exact results_arr Try.results122 rfl hlV rfl rfl
end Go.Proofs.Ytcoehcoohppbjaa
