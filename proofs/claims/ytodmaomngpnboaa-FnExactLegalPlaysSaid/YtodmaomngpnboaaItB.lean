/- The library's Collect of the parts of a list. -/
import Derived.Test.YtodmaomngpnboaaItA
set_option linter.unusedVariables false
namespace Go.Proofs.Ytodmaomngpnboaa
open Go.RowKit Go.Shelf
attribute [local go_sem] Oper.semAt_some

theorem one_enc (enc : Nat → Value) (h1c : ∀ i, (enc i).oneCell' = true) (x : Nat) : ∀ u ∈ [enc x], u.oneCell' = true := by
  intro u hu
  rw [List.mem_singleton] at hu
  subst hu; exact h1c x
theorem map_snoc (enc : Nat → Value) (pre : List Nat) (x : Nat) : (pre ++ [x]).map enc = pre.map enc ++ [enc x] := by simp
set_option maxRecDepth 100000 in
set_option maxHeartbeats 2000000 in
theorem appendSeqP_any (gf : Nat) (lb : Array Value) (pa : Nat → Option Addr) (na ca : Nat → Nat) (cnt : Nat) (hc : cnt ≤ 1000000) (w w0 : World) (hb0 : Below w0.heap.size w0 w)
    (eg : ∀ args w, (callFunc gf args).run Try.prog w = .ok (.enter gf args) w)
    (hseq : SeqStopsK Fence.wide (2 : Nat) Try.prog gf lb (fun i => #[.slice (pa i) (na i) (ca i)]) (Below w.heap.size) (fun ys => ys = List.range cnt) (fun (pre : List Nat) => ∃ m, m ≤ cnt ∧ pre = List.range m) cnt w0) :
    Calls Try.prog 169 #[.slice none 0 0, .func (.func gf) #[] lb] w fun e W' => ∃ v, e = .returned v ∧ W'.ownsRow w.heap.size 22 1 v cnt ((List.range cnt).map fun i => .slice (pa i) (na i) (ca i)) ∧ Below w.heap.size w W' := by
  obtain ⟨i0, hi, hz0, hz1, hz2⟩ := info_parts (show (Try.prog.info? 22).map (fun i => (i.zero, i.size, i.bytes)) = some (some (.slice none 0 0), 1, 24) by kernel_rfl)
  refine (callsIn_wide (n := 3)).1 ?_
  have hro : Fence.wide.round = none := rfl
  refine callsIn_of_wp_marks Try.func169 rfl trivial ?_ hro
  simp only [Try.ntmps169, List.size_toArray, List.length_cons, List.length_nil, Nat.reduceAdd, Nat.reduceSub, Array.replicate_succ, Array.replicate_zero, List.push_toArray, List.append_toArray, List.nil_append, List.cons_append]
  gi_wp2
  have bO := Boxed.new w 45 (.slice none 0 0)
  have hB0 : Below w.heap.size w (w.alloc (.cells #[.slice none 0 0] 45)) := (Below.refl _ w).alloc (Nat.le_refl _) _
  refine wpIn_rangeFunc_ownG hro (by omega) (gf := gf) (lb := lb) rfl trivial eg
    hseq belowK_t (belowK_b (by simp)) (hb0.trans (hB0.mono hb0.size)) (fun _ => rfl)
    (fun (pre : List Nat) W => (∃ v, Boxed W w.heap.size 45 v ∧ W.ownsRow w.heap.size 22 1 v pre.length (pre.map fun i => .slice (pa i) (na i) (ca i)) ∧ True) ∧ Below w.heap.size w W)
    (fun _ _ _ => False)
    (OwnFrom.and (Own.from (holdsRow_own w.heap.size w.heap.size 45 22 1 (fun (pre : List Nat) => pre.length) (fun (pre : List Nat) => pre.map fun i => .slice (pa i) (na i) (ca i)) (fun (pre : List Nat) v => True)) _) (ownFrom_below (Nat.le_refl _) (by simp)))
    (fun _ _ _ _ _ hs _ _ => hs)
    ⟨⟨_, bO, World.ownsRow_nil _ _ _ _, trivial⟩, hB0⟩
    (fun x => { tmps := #[.slice none 0 0, .func (.func gf) #[] lb, .pointer (some ⟨w.heap.size, 0, none⟩), undef, .slice none 0 0, .slice (pa x) (na x) (ca x), .func (.func gf) #[] lb, .slice (pa x) (na x) (ca x), undef, undef, undef, undef, undef], defers := [] }) ?assign ?body ?done ?stop
  case assign =>
    intro l x W K hK
    gi_wp2
    exact hK
  case body =>
    rintro l pre x W ⟨⟨v, hv, hrow, -⟩, hB⟩ hlt
    have hc := hv.cell
    have hsz := hB.size
    gi_wp2_with (gi_at_builtin; refine wpListIn_append_own _ rfl _ _ 45 rfl w.heap.size 22 i0 (.slice none 0 0) 1 24 Try.underlying45 hi hz0 hz1 hz2 rfl (by decide) _ _ _ rfl (hrow.alloc _) ⟨W.heap.size, 0, none⟩ 1 1 [.slice (pa x) (na x) (ca x)] rfl rfl (cell_one_new _ _ _) (one_enc (fun i => .slice (pa i) (na i) (ca i)) (fun _ => rfl) x) (by unfold maxLen; omega) (by omega) (by simp; omega) ?_; intro v' w1 hown' hgrow _; obtain ⟨g', cap', rfl⟩ := ownsRow_succ hown'; obtain ⟨hv1, hv2, hr2, hk2, hb2⟩ := hv.appended (by decide) hrow hB.size (Nat.le_refl _) hown' hgrow; have hc1 := hv1.cell; have hf1 := hv1.frozen)
    exact ⟨hk2.from _, hb2, ⟨_, hv2, by rw [List.map_append, List.length_append]; exact hr2, trivial⟩, hB.trans hb2⟩
  case done =>
    rintro D ys W hD rfl ⟨⟨v, hv, hrow, -⟩, hB⟩ hK
    have hc := hv.cell
    rw [List.length_range] at hrow
    gi_wp2
    refine ⟨by simp, .inl ⟨_, _, rfl, run_takeDeferred hK, ?_⟩⟩
    exact ⟨_, results_tmp rfl _ _ _, v, rfl, ownsRow_putObj hrow _ hK rfl, hB.trans (belowK_b (w := w) (Nat.le_refl _) W D _ _ (by simp at hD; omega) hK rfl rfl)⟩
  case stop =>
    rintro D c pre W _ _ h _
    exact h.elim
end Go.Proofs.Ytodmaomngpnboaa
