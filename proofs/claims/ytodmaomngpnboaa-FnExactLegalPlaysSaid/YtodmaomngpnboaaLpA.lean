/- The library's Collect of the values of a list. -/
import Derived.Test.YtodmaomngpnboaaItB
import Derived.Test.YtodmaomngpnboaaDb
set_option linter.unusedVariables false
namespace Go.Proofs.Ytodmaomngpnboaa
open Go.RowKit Go.Shelf
attribute [local go_sem] Oper.semAt_some

theorem gobV {w w' : World} (h : Below w.heap.size w w') : w.grownBy w' none := ⟨h.os, h.tape, h.output, h.size, fun i hi _ => h.block i hi⟩
set_option maxRecDepth 100000 in
set_option maxHeartbeats 2000000 in
theorem values1_in (F : Fence) (n : Nat) (h7 : F.fn 151) (hro : F.round = none) (hn : 1 ≤ n) (l B1 n₀ b off L cap : Nat) (fs : List Int) (hcn : L ≤ 1000000) (hcap : L ≤ cap) (hb : b < n₀) (J Jx : List Nat → World → Prop)
    (hY : ∀ pre x W, J pre W → pre.length < L → x < L → YieldAt F (n - 1) Try.prog l #[.int .i64 (fs.getD x 0)] W fun e W' =>
      (e = .returned (.bool true) ∧ J (pre ++ [x]) W' ∧ Below n₀ W W') ∨ (e = .returned (.bool false) ∧ Jx (pre ++ [x]) W'))
    (W : World) (c1 : W.cell? ⟨B1, 0, none⟩ = some (.slice (some ⟨b, off, none⟩) L cap)) (hc : ∀ i, i < L → W.cell? ⟨b, off + i, none⟩ = some (.int .i64 (fs.getD i 0))) (h0 : J [] W) :
    CallsIn F n Try.prog 151 #[.func (.yield l) #[] #[], .pointer (some ⟨B1, 0, none⟩)] W fun e W' => (∃ v, e = .returned v) ∧
      ((∃ ys, ys = List.range L ∧ J ys W') ∨ (∃ pre, (∃ m, m ≤ L ∧ pre = List.range m) ∧ Jx pre W')) := by
  have HY := Lib.hid hY
  have HC := Lib.hid hc
  clear hY hc
  refine callsIn_of_wp Try.func151 rfl h7 ?_ hro
  simp only [Try.ntmps151, List.size_toArray, List.length_cons, List.length_nil, Nat.reduceAdd, Nat.reduceSub, Array.replicate_succ, Array.replicate_zero, List.push_toArray, List.append_toArray, List.nil_append, List.cons_append]
  gi_wp2
  clear c1
  gi_loopw [7] (fun i wr => ∃ j : Nat, j ≤ L ∧ i = .int .i64 (j : Int) ∧ J (List.range j) wr ∧ Below n₀ W wr)
    (fun i _ => L - (intOf i).toNat)
  case atStart => exact ⟨0, Nat.zero_le _, rfl, h0, Below.refl _ _⟩
  case round =>
    obtain ⟨j, hj, rfl, hJs, hnx⟩ := hrel
    have HJs := Lib.hid hJs
    have Hnx := Lib.hid hnx
    clear hJs hnx
    by_cases hlt : j < L
    · have c2 := (Hnx.out.cell (p := ⟨b, off + j, none⟩) hb).trans (HC.out j hlt)
      obtain ⟨fn, tmps, assign, body, hy, hR⟩ := HY.out _ j wr HJs.out (by rw [List.length_range]; exact hlt) hlt
      have HR := Lib.hid hR
      clear hR
      generalize fs.getD j 0 = x at *
      gi_wp2
      refine HR.out.mono ?_
      rintro e W3 (⟨rfl, hJ3, hk3⟩ | ⟨rfl, hJx3⟩)
      · have HJ3 := Lib.hid hJ3
        have Hk3 := Lib.hid hk3
        clear hJ3 hk3
        gi_wp2
        go_roundw
        case rel => exact ⟨j + 1, by omega, by go_num, by rw [List.range_succ]; exact HJ3.out, Hnx.out.trans Hk3.out⟩
        case measure => simp [intOf]; omega
      · have HJx3 := Lib.hid hJx3
        clear hJx3
        gi_wp2
        refine bodyPost_ret (results_none rfl _ _ _) rfl ?_
        exact ⟨⟨_, rfl⟩, .inr ⟨_, ⟨j + 1, by omega, by rw [List.range_succ]⟩, HJx3.out⟩⟩
    · obtain rfl : L = j := by omega
      gi_wp2
      go_end0
      exact ⟨⟨_, rfl⟩, .inl ⟨_, rfl, HJs.out⟩⟩
theorem values_stops (B1 n₀ b off L cap : Nat) (fs : List Int) (hcn : L ≤ 1000000) (hcap : L ≤ cap) (w : World) (h1 : B1 < n₀) (hb : b < n₀) (hn₀ : n₀ ≤ w.heap.size)
    (c1 : w.cell? ⟨B1, 0, none⟩ = some (.slice (some ⟨b, off, none⟩) L cap)) (hc : ∀ i, i < L → w.cell? ⟨b, off + i, none⟩ = some (.int .i64 (fs.getD i 0))) (n : Nat) (hn : 1 ≤ n) :
    SeqStopsK Fence.wide n Try.prog 151 #[.pointer (some ⟨B1, 0, none⟩)] (fun i => #[.int .i64 (fs.getD i 0)]) (Below n₀) (fun ys => ys = List.range L) (fun (pre : List Nat) => ∃ m, m ≤ L ∧ pre = List.range m) L w := fun l J Jx W hW hJ _ hY h0 =>
  values1_in Fence.wide n trivial rfl hn l B1 n₀ b off L cap fs hcn hcap hb J Jx (fun pre x W h1 h2 _ => hY pre x W h1 h2) W ((hW.cell (p := ⟨B1, 0, none⟩) (by show B1 < _; omega)).trans c1) (fun i hi => (hW.cell (p := ⟨b, off + i, none⟩) (by show b < _; omega)).trans (hc i hi)) h0
set_option maxRecDepth 100000 in
set_option maxHeartbeats 2000000 in
theorem appendSeqV_any (gf : Nat) (lb : Array Value) (fs : List Int) (cnt : Nat) (hc : cnt ≤ 1000000) (w w0 : World) (hb0 : Below w0.heap.size w0 w)
    (eg : ∀ args w, (callFunc gf args).run Try.prog w = .ok (.enter gf args) w)
    (hseq : SeqStopsK Fence.wide (2 : Nat) Try.prog gf lb (fun i => #[.int .i64 (fs.getD i 0)]) (Below w.heap.size) (fun ys => ys = List.range cnt) (fun (pre : List Nat) => ∃ m, m ≤ cnt ∧ pre = List.range m) cnt w0) :
    Calls Try.prog 172 #[.slice none 0 0, .func (.func gf) #[] lb] w fun e W' => ∃ v, e = .returned v ∧ W'.ownsRow w.heap.size 2 1 v cnt ((List.range cnt).map fun i => .int .i64 (fs.getD i 0)) ∧ Below w.heap.size w W' := by
  obtain ⟨i0, hi, hz0, hz1, hz2⟩ := info_parts (show (Try.prog.info? 2).map (fun i => (i.zero, i.size, i.bytes)) = some (some (.int .i64 0), 1, 8) by kernel_rfl)
  refine (callsIn_wide (n := 3)).1 ?_
  have hro : Fence.wide.round = none := rfl
  refine callsIn_of_wp_marks Try.func172 rfl trivial ?_ hro
  simp only [Try.ntmps172, List.size_toArray, List.length_cons, List.length_nil, Nat.reduceAdd, Nat.reduceSub, Array.replicate_succ, Array.replicate_zero, List.push_toArray, List.append_toArray, List.nil_append, List.cons_append]
  gi_wp2
  have bO := Boxed.new w 22 (.slice none 0 0)
  have hB0 : Below w.heap.size w (w.alloc (.cells #[.slice none 0 0] 22)) := (Below.refl _ w).alloc (Nat.le_refl _) _
  refine wpIn_rangeFunc_ownG hro (by omega) (gf := gf) (lb := lb) rfl trivial eg
    hseq belowK_t (belowK_b (by simp)) (hb0.trans (hB0.mono hb0.size)) (fun _ => rfl)
    (fun (pre : List Nat) W => (∃ v, Boxed W w.heap.size 22 v ∧ W.ownsRow w.heap.size 2 1 v pre.length (pre.map fun i => .int .i64 (fs.getD i 0)) ∧ True) ∧ Below w.heap.size w W)
    (fun _ _ _ => False)
    (OwnFrom.and (Own.from (holdsRow_own w.heap.size w.heap.size 22 2 1 (fun (pre : List Nat) => pre.length) (fun (pre : List Nat) => pre.map fun i => .int .i64 (fs.getD i 0)) (fun (pre : List Nat) v => True)) _) (ownFrom_below (Nat.le_refl _) (by simp)))
    (fun _ _ _ _ _ hs _ _ => hs)
    ⟨⟨_, bO, World.ownsRow_nil _ _ _ _, trivial⟩, hB0⟩
    (fun x => { tmps := #[.slice none 0 0, .func (.func gf) #[] lb, .pointer (some ⟨w.heap.size, 0, none⟩), undef, .slice none 0 0, .int .i64 (fs.getD x 0), .func (.func gf) #[] lb, .int .i64 (fs.getD x 0), undef, undef, undef, undef, undef], defers := [] }) ?assign ?body ?done ?stop
  case assign =>
    intro l x W K hK
    gi_wp2
    exact hK
  case body =>
    rintro l pre x W ⟨⟨v, hv, hrow, -⟩, hB⟩ hlt
    have hc := hv.cell
    have hsz := hB.size
    gi_wp2_with (gi_at_builtin; refine wpListIn_append_own _ rfl _ _ 22 rfl w.heap.size 2 i0 (.int .i64 0) 1 8 Try.underlying22 hi hz0 hz1 hz2 rfl (by decide) _ _ _ rfl (hrow.alloc _) ⟨W.heap.size, 0, none⟩ 1 1 [.int .i64 (fs.getD x 0)] rfl rfl (cell_one_new _ _ _) (one_int _) (by unfold maxLen; omega) (by omega) (by simp; omega) ?_; intro v' w1 hown' hgrow _; obtain ⟨g', cap', rfl⟩ := ownsRow_succ hown'; obtain ⟨hv1, hv2, hr2, hk2, hb2⟩ := hv.appended (by decide) hrow hB.size (Nat.le_refl _) hown' hgrow; have hc1 := hv1.cell; have hf1 := hv1.frozen)
    exact ⟨hk2.from _, hb2, ⟨_, hv2, by rw [List.map_append, List.length_append]; exact hr2, trivial⟩, hB.trans hb2⟩
  case done =>
    rintro D ys W hD rfl ⟨⟨v, hv, hrow, -⟩, hB⟩ hK
    have hc := hv.cell
    rw [List.length_range] at hrow
    gi_wp2
    refine ⟨by simp, .inl ⟨_, _, rfl, run_takeDeferred hK, ?_⟩⟩
    exact ⟨_, results_tmp rfl _ _ _, v, rfl, ownsRow_putObj hrow _ hK rfl, hB.trans (belowK_b (w := w) (Nat.le_refl _) W D _ _ (by simp at hD; omega) hK rfl rfl)⟩
  case stop =>
    rintro D c pre W _ _ h _
    exact h.elim
theorem map_range_getD (fs : List Int) : (List.range fs.length).map (fun i => Value.int .i64 (fs.getD i 0)) = fs.map (Value.int .i64) := by
  refine List.ext_getElem? fun i => ?_
  rw [List.getElem?_map, List.getElem?_map]
  by_cases h : i < fs.length
  · rw [List.getElem?_range h, List.getElem?_eq_getElem h]
    show some (Value.int .i64 (fs.getD i 0)) = some _
    rw [getD_lt fs 0 i h]
  · rw [List.getElem?_eq_none (by rw [List.length_range]; omega), List.getElem?_eq_none (by omega)]; rfl
theorem valuesF_made (v : Value) (p : Option Addr) (len cap : Nat) (hv : v = .slice p len cap) (w : World) :
    Calls Try.prog 100 #[v] w fun e w' => e = .returned (.func (.func 151) #[] #[.pointer (some ⟨w.heap.size, 0, none⟩)]) ∧ w' = w.alloc (.cells #[v] 22) := by
  subst hv
  go_enter Try.func100, Try.ntmps100
  go_wp2
  go_ret
  exact ⟨rfl, rfl⟩
/-- the values of a list, collected anew -/
theorem collectV_any (fs : List Int) (b off cap : Nat) (w0 w : World) (hcn : fs.length ≤ 1000000) (hcap : fs.length ≤ cap) (hb : b < w0.heap.size)
    (hc : ∀ i, i < fs.length → w0.cell? ⟨b, off + i, none⟩ = some (.int .i64 (fs.getD i 0)))
    (hw : w = w0.alloc (.cells #[.slice (some ⟨b, off, none⟩) fs.length cap] 22)) :
    Calls Try.prog 149 #[.func (.func 151) #[] #[.pointer (some ⟨w0.heap.size, 0, none⟩)]] w fun e w' => ∃ r, e = .returned r ∧ Sw (Value.int .i64) 0 w' r fs w.heap.size w'.heap.size ∧ Below w.heap.size w w' := by
  have hz : w.heap.size = w0.heap.size + 1 := by rw [hw]; simp
  have c1 : w.cell? ⟨w0.heap.size, 0, none⟩ = some (.slice (some ⟨b, off, none⟩) fs.length cap) := by
    rw [hw]; exact World.cell?_alloc_at _ _ _ _ rfl
  have hc2 : ∀ i, i < fs.length → w.cell? ⟨b, off + i, none⟩ = some (.int .i64 (fs.getD i 0)) := fun i hi => by
    rw [hw, World.cell?_alloc_past _ _ _ hb]; exact hc i hi
  have HA := Lib.hid (appendSeqV_any 151 #[.pointer (some ⟨w0.heap.size, 0, none⟩)] fs fs.length hcn w w (Below.refl _ _)
    (run_enter Try.func151 (by kernel_rfl) (by kernel_rfl))
    (values_stops w0.heap.size w.heap.size b off fs.length cap fs hcn hcap w (by omega) (by omega) (Nat.le_refl _) c1 hc2 2 (by omega)))
  clear hw c1 hc2 hc hcap
  go_enter Try.func149, Try.ntmps149
  go_wp2_with fail
  refine HA.out.mono ?_
  rintro e w' ⟨v, rfl, hv, hb⟩
  rw [map_range_getD] at hv
  have Hv := Lib.hid (Sw.of_owns (d := 0) hv rfl)
  have Hb := Lib.hid hb
  clear hv hb
  go_wp2
  go_ret
  exact ⟨v, rfl, Hv.out, Hb.out⟩
end Go.Proofs.Ytodmaomngpnboaa
