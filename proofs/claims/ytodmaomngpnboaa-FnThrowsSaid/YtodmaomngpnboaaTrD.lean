/- Contracts: the throw that gains most, the program. -/
import Derived.Test.YtodmaomngpnboaaTrC
import Derived.Sort.QuietIn
set_option linter.unusedVariables false
namespace Go.Proofs.Ytodmaomngpnboaa
open Go.RowKit Go.Shelf
attribute [local go_sem] Oper.semAt_some

theorem gainS_row (fs cs : List Int) (n i k : Nat) : gainS fs cs n i (k + 1) = gainS fs cs n i k + cs.getD k 0 * fs.getD (i * n + k) 0 := by
  show gainS fs cs n i k + _ = _
  rw [Int.mul_comm]
theorem appendedX {W w1 : World} {n₀ B : Nat} {t e : TypeId} {size : Nat} {v v' : Value} {k m : Nat} {xs ys : List Value} {tmp : Obj}
    (hv : Boxed W B t v) (hte : t ≠ e) (hrow : W.ownsRow n₀ e size v k xs) (hn₀ : n₀ ≤ W.heap.size)
    (hown' : w1.ownsRow n₀ e size v' m ys) (hgrow : (W.alloc tmp).grownBy w1 v.ownBlock) :
    Boxed w1 B t v ∧ Boxed (w1.setCell ⟨B, 0, none⟩ v') B t v' ∧ (w1.setCell ⟨B, 0, none⟩ v').ownsRow n₀ e size v' m ys ∧ KeepsOthers W (w1.setCell ⟨B, 0, none⟩ v') ∧ Bex n₀ B W (w1.setCell ⟨B, 0, none⟩ v') := by
  have hv1 : Boxed w1 B t v := (hv.alloc tmp).kept hgrow (hv.not_row hte hrow)
  have hown : ∀ j, v.ownBlock = some j → n₀ ≤ j := fun j ej => by
    rcases hrow.2 with ⟨rfl, _⟩ | ⟨g, cap, cur, rfl, hb, _, _⟩
    · simp [Value.ownBlock] at ej
    · obtain rfl : g = j := by simpa [Value.ownBlock] using ej
      exact hb
  refine ⟨hv1, hv1.set v', hown'.kept (grownBy_setCell' w1 B v') (.inr (hv1.not_row hte hown').symm), ?_, ?_⟩
  · refine ((KeepsOthers.alloc W tmp).trans (KeepsOthers.of_grownBy hgrow fun j o ej hj => ?_)).trans (KeepsOthers.setCell _ _ _)
    rcases (hrow.alloc tmp).2 with ⟨rfl, _⟩ | ⟨g, cap, cur, rfl, _, hgb, _⟩
    · simp [Value.ownBlock] at ej
    · obtain rfl : g = j := by simpa [Value.ownBlock] using ej
      rw [hgb] at hj; cases hj; rfl
  · refine ⟨hgrow.os, hgrow.tape, hgrow.output, ?_, fun j hj hB => ?_⟩
    · have h1 := hgrow.size
      have h2 := (KeepsWalks.setCell w1 ⟨B, 0, none⟩ v').size
      simp only [World.size_alloc] at h1
      omega
    · rw [Below.heap_setCell _ _ _ j hB, hgrow.block j (by simp; omega) (fun e' => by have := hown j e'.symm; omega)]
      exact Below.heap_alloc _ _ _ (by omega)
set_option maxRecDepth 100000 in
set_option maxHeartbeats 4000000 in
theorem best_any (fs cs : List Int) (n b off cap : Nat) (v2 : Value) (w : World) (h2 : 2 ≤ n) (h5 : n ≤ 5) (hl : fs.length = n * n) (hcl : cs.length = n) (hcap : fs.length ≤ cap)
    (hf : ∀ k, k < n * n → -9 ≤ fs.getD k 0 ∧ fs.getD k 0 ≤ 9) (hc : ∀ k, 0 ≤ cs.getD k 0 ∧ cs.getD k 0 ≤ 200)
    (h : Sl (Value.int .i64) 0 w (.slice (some ⟨b, off, none⟩) fs.length cap) fs) (h' : Sl (Value.int .i64) 0 w v2 cs) :
    Calls Try.prog 72 #[.slice (some ⟨b, off, none⟩) fs.length cap, v2] w fun e w' => e = .returned (.int .i64 (repL fs n cs : Nat)) ∧ Below w.heap.size w w' := by
  obtain ⟨i0, hi, hz0, hz1, hz2⟩ := info_parts (show (Try.prog.info? 2).map (fun i => (i.zero, i.size, i.bytes)) = some (some (.int .i64 0), 1, 8) by kernel_rfl)
  have hnn := Nat.mul_le_mul h5 h5
  have hpos : 0 < n * n := Nat.mul_pos (by omega) (by omega)
  obtain ⟨q, cap2, rfl, hcs⟩ := h'
  rw [hcl] at hcs ⊢
  obtain ⟨hcap2, b2, off2, rfl, hbs2, hcell2⟩ := hcs (by omega)
  obtain ⟨p', cap', e', hfs⟩ := h
  obtain ⟨-, b', off', e2, hbs, hcell⟩ := hfs (by omega)
  cases e'
  cases e2
  rw [hl] at hcell hcap ⊢
  clear hcs hfs
  have HC := Lib.hid hcell
  have HC2 := Lib.hid hcell2
  have Hf := Lib.hid hf
  have Hc := Lib.hid hc
  have hro : Fence.wide.round = none := rfl
  obtain ⟨w1, hw1⟩ : ∃ z, z = (w.alloc (.cells #[.slice (some ⟨b2, off2, none⟩) n cap2] 22)).alloc (.cells #[.slice none 0 0] 22) := ⟨_, rfl⟩
  have hb1 : Below w.heap.size w w1 := by rw [hw1]; exact ((Below.refl _ w).alloc (Nat.le_refl _) _).alloc (by simp) _
  have hz1' : w1.heap.size = w.heap.size + 2 := by rw [hw1]; simp
  have bT : Boxed w1 w.heap.size 22 (.slice (some ⟨b2, off2, none⟩) n cap2) := by rw [hw1]; exact (Boxed.new w _ _).alloc _
  have bG : Boxed w1 (w.heap.size + 1) 22 (.slice none 0 0) := by
    have := Boxed.new (w.alloc (.cells #[.slice (some ⟨b2, off2, none⟩) n cap2] 22)) 22 (.slice none 0 0)
    rw [World.size_alloc] at this
    rw [hw1]; exact this
  clear hcell hcell2 hf hc hl hcl
  refine (callsIn_wide (n := 3)).1 ?_
  refine callsIn_of_wp_marks Try.func72 rfl trivial ?_ hro
  simp only [Try.ntmps72, List.size_toArray, List.length_cons, List.length_nil, Nat.reduceAdd, Nat.reduceSub, Array.replicate_succ, Array.replicate_zero, List.push_toArray, List.append_toArray, List.nil_append, List.cons_append]
  have cT := bT.cell
  have Hz1 := Lib.hid hz1'
  rw [hw1] at cT
  clear hz1'
  gi_wp2
  refine ⟨trivial, ?_⟩
  rw [← hw1]
  clear cT
  have HW1 := Lib.hid hw1
  clear hw1
  refine (callsIn_wide.2 (chunk_made _ _ (n * n) cap n _ (by omega) (by omega) rfl)).mono ?_
  rintro e W0 ⟨rfl, hW0⟩
  have bT0 : Boxed W0 w.heap.size 22 (.slice (some ⟨b2, off2, none⟩) n cap2) := by rw [hW0]; exact (bT.alloc _).alloc _
  have bG0 : Boxed W0 (w.heap.size + 1) 22 (.slice none 0 0) := by rw [hW0]; exact (bG.alloc _).alloc _
  have hbW : Below w1.heap.size w1 W0 := by rw [hW0]; exact ((Below.refl _ _).alloc (Nat.le_refl _) _).alloc (by simp) _
  have hzW : W0.heap.size = w1.heap.size + 2 := by rw [hW0]; simp
  have q1 : W0.cell? ⟨w1.heap.size, 0, none⟩ = some (.slice (some ⟨b, off, none⟩) (n * n) cap) := by
    rw [hW0, World.cell?_alloc_past _ _ _ (by simp)]; exact World.cell?_alloc_at _ _ _ _ rfl
  have q2 : W0.cell? ⟨w1.heap.size + 1, 0, none⟩ = some (.int .i64 (n : Int)) := by rw [hW0]; exact World.cell?_alloc_at _ _ _ _ (by simp)
  have HbW := Lib.hid (hb1.trans (hbW.mono hb1.size))
  have HzW := Lib.hid (hzW.trans (congrArg (· + 2) Hz1.out))
  clear hW0 hzW hbW bT bG
  gi_wp2
  refine wpIn_rangeFunc_ownG hro (by omega) (gf := 168) (lb := #[.pointer (some ⟨w1.heap.size, 0, none⟩), .pointer (some ⟨w1.heap.size + 1, 0, none⟩)]) rfl trivial (run_enter Try.func168 (by kernel_rfl) (by kernel_rfl))
    (chunk_stopsX w1.heap.size (w1.heap.size + 1) W0.heap.size (w.heap.size + 1) (n * n) cap n n (some ⟨b, off, none⟩) (by omega) (by omega) (by omega) rfl hcap ⟨b, off, rfl⟩ W0 (by have := HzW.out; have := Hz1.out; omega) (by have := HzW.out; have := Hz1.out; omega) (by have := Hz1.out; omega) (by have := Hz1.out; omega) (Nat.le_refl _) q1 q2 2 (by omega)) Bex.trans (bexK_b (Nat.le_refl _)) (Below.refl _ _) (fun _ => rfl)
    (fun (pre : List (Fin n)) W => (∃ v, Boxed W (w.heap.size + 1) 22 v ∧ W.ownsRow W0.heap.size 2 1 v pre.length (pre.map fun i => .int .i64 (gainG fs cs n i.1)) ∧ True) ∧ Bex W0.heap.size (w.heap.size + 1) W0 W)
    (fun _ _ _ => False)
    (OwnFrom.and (Own.from (holdsRow_own W0.heap.size (w.heap.size + 1) 22 2 1 (fun (pre : List (Fin n)) => pre.length) (fun (pre : List (Fin n)) => pre.map fun i => .int .i64 (gainG fs cs n i.1)) (fun _ v => True)) _) (ownFrom_bex (Nat.le_refl _) (Nat.le_refl _)))
    (fun _ _ _ _ _ hs _ _ => hs)
    ⟨⟨_, bG0, World.ownsRow_nil _ _ _ _, trivial⟩, Bex.refl _ _ _⟩
    (fun x => { tmps := #[.slice (some ⟨b, off, none⟩) (n * n) cap, .slice (some ⟨b2, off2, none⟩) n cap2, undef, .pointer (some ⟨w.heap.size, 0, none⟩), .int .i64 0, .pointer (some ⟨w.heap.size + 1, 0, none⟩), .slice (some ⟨b, off + x.1 * n, none⟩) n n, undef, undef, undef, .slice (some ⟨b, off, none⟩) (n * n) cap, .slice (some ⟨b2, off2, none⟩) n cap2, .int .i64 (n : Int), .func (.func 168) #[] #[.pointer (some ⟨w1.heap.size, 0, none⟩), .pointer (some ⟨w1.heap.size + 1, 0, none⟩)], .slice (some ⟨b, off + x.1 * n, none⟩) n n, undef, undef, undef, undef, undef, undef, undef, undef, undef, undef, undef, undef, undef, undef, undef, undef, undef, undef, undef, undef, undef, undef, undef, undef], defers := [] })
    ?assign ?body ?done ?stop
  case assign =>
    intro l x W K hK
    gi_wp2
    exact hK
  case body =>
    rintro l pre x W ⟨⟨v, hv, hrow, -⟩, hB⟩ hlt
    have hc := hv.cell
    have hsz := hB.size
    have hx := x.2
    have Hz0 := HzW.out
    have hxn : x.1 * n + n ≤ n * n := by
      have := Nat.mul_le_mul_right n (show x.1 + 1 ≤ n from hx)
      rw [Nat.add_mul, Nat.one_mul] at this
      exact this
    have cT := (hB.cell (p := ⟨w.heap.size, 0, none⟩) (by show w.heap.size < W0.heap.size; omega) (by show w.heap.size ≠ w.heap.size + 1; omega)).trans bT0.cell
    have HF := Lib.hid (fun k (hk : k < n) => by
      have h1 := HC.out (x.1 * n + k) (by omega)
      rw [← HbW.out.cell (p := ⟨b, off + (x.1 * n + k), none⟩) hbs, ← hB.cell (p := ⟨b, off + (x.1 * n + k), none⟩) (by show b < W0.heap.size; omega) (by show b ≠ w.heap.size + 1; omega), ← Nat.add_assoc] at h1
      exact (h1 : W.cell? ⟨b, off + x.1 * n + k, none⟩ = _))
    have HS := Lib.hid (fun k (hk : k < n) => by
      have h1 := HC2.out k hk
      rw [← HbW.out.cell (p := ⟨b2, off2 + k, none⟩) hbs2, ← hB.cell (p := ⟨b2, off2 + k, none⟩) (by show b2 < W0.heap.size; omega) (by show b2 ≠ w.heap.size + 1; omega)] at h1
      exact (h1 : W.cell? ⟨b2, off2 + k, none⟩ = _))
    have HG0 := Lib.hid (show gainS fs cs n x.1 0 = 0 from rfl)
    have HGs := Lib.hid (fun k => gainS_row fs cs n x.1 k)
    have HGb := Lib.hid (gainS_bd fs cs n x.1 200 (by omega) (fun k hk => Hf.out (x.1 * n + k) (by omega)) Hc.out)
    have HGn := Lib.hid (show gainS fs cs n x.1 n = gainG fs cs n x.1 from rfl)
    clear Hz0
    gi_wp2
    gi_loopw [7, 17] (fun g i wr => ∃ k : Nat, k ≤ n ∧ i = .int .i64 (k : Int) ∧ g = .int .i64 (gainS fs cs n x.1 k) ∧ Hid (wr = W)) (fun _ i _ => n - (intOf i).toNat)
    case atStart => exact ⟨0, Nat.zero_le _, rfl, by rw [HG0.out], Lib.hid rfl⟩
    case round =>
      obtain ⟨k, hk, rfl, rfl, hw⟩ := hrel
      obtain rfl := hw.out
      by_cases hlk : k < n
      · have c1 := HF.out k hlk
        have c2 := HS.out k hlk
        have b1 := HGb.out k hk
        have b2' := HGb.out (k + 1) hlk
        have hst := HGs.out k
        rw [hst] at b2'
        have p1 := Hf.out (x.1 * n + k) (by omega)
        have p2 := Hc.out k
        have Hst := Lib.hid hst
        clear hst
        have hlk2 : (k : Int) < (n : Int) := by omega
        generalize fs.getD (x.1 * n + k) 0 = X at *
        generalize cs.getD k 0 = Y at *
        generalize gainS fs cs n x.1 k = S at *
        have c1' : wr.cell? ⟨b, off + x.1 * n + k, none⟩ = some (.int .i64 X) := c1
        gi_wp2
        go_roundw
        case rel => exact ⟨k + 1, by omega, by go_num, by rw [Hst.out], Lib.hid (by first | trivial | rfl)⟩
        case measure => simp [intOf]; omega
      · obtain rfl : k = n := by omega
        rw [HGn.out]
        have hpl : pre.length ≤ 5 := by omega
        generalize hGG : gainG fs cs k x.1 = GG at *
        have HGG := Lib.hid hGG
        clear hGG
        gi_wp2_with (gi_at_builtin; refine wpListIn_append_own _ rfl _ _ 22 rfl W0.heap.size 2 i0 (.int .i64 0) 1 8 Try.underlying22 hi hz0 hz1 hz2 rfl (by decide) _ _ _ rfl (hrow.alloc _) ⟨wr.heap.size, 0, none⟩ 1 1 [.int .i64 GG] rfl rfl (cell_one_new _ _ _) (one_int GG) (by unfold maxLen; omega) (by omega) (by simp; omega) ?_; intro v' w9 hown' hgrow _; obtain ⟨g', cap', rfl⟩ := ownsRow_succ hown'; obtain ⟨hv1, hv2, hr2, hk2, hb2⟩ := appendedX hv (by decide) hrow hB.size hown' hgrow; have hc1 := hv1.cell; have hf1 := hv1.frozen)
        have hr3 := hr2
        rw [← HGG.out, show pre.map (fun i : Fin k => (Value.int .i64 (gainG fs cs k i.1))) ++ [.int .i64 (gainG fs cs k x.1)] = (pre ++ [x]).map (fun i : Fin k => (Value.int .i64 (gainG fs cs k i.1))) by rw [List.map_append]; rfl] at hr3
        refine ⟨hk2.from _, hb2, ⟨_, hv2, ?_⟩, hB.trans hb2⟩
        first | (rw [List.length_append]; exact hr3) | (refine ⟨?_, trivial⟩; rw [List.length_append]; exact hr3)
  case done =>
    rintro D ys W hD hys ⟨⟨v, hv, hrow, -⟩, hB⟩ hK
    have hyl : ys.length = n := by rw [← List.length_map (f := Fin.val), hys, List.length_range]
    have hym : (ys.map fun i : Fin n => (Value.int .i64 (gainG fs cs n i.1))) = (tab n (gainG fs cs n)).map (Value.int .i64) := by
      unfold tab
      rw [← hys, List.map_map, List.map_map]
      rfl
    rw [hyl, hym] at hrow
    have hsl := (Sw.of_owns (d := 0) hrow (tab_len _ _)).sl
    obtain ⟨f1, f2, f3⟩ := repB_facts (gainG fs cs n) n (by omega)
    have hmx : maxF (tab n (gainG fs cs n)) (n - 1) = gainG fs cs n (repB (gainG fs cs n) n) := by
      obtain ⟨j, hj, e⟩ := maxF_mem (tab n (gainG fs cs n)) (n - 1)
      have h1 := maxF_ge (tab n (gainG fs cs n)) (n - 1) _ (show repB (gainG fs cs n) n ≤ n - 1 by omega)
      rw [tab_get _ _ _ f1] at h1
      rw [e, tab_get _ _ _ (by omega)] at h1
      have h3 := f2 j (by omega)
      rw [e, tab_get _ _ _ (by omega)]
      omega
    have HM := Lib.hid (fun m => maxI_any (tab n (gainG fs cs n)) v (W.drewN m) (by rw [tab_len]; omega) (by rw [tab_len]; omega) hsl)
    have HI := Lib.hid (fun m => idxI_any (tab n (gainG fs cs n)) v (gainG fs cs n (repB (gainG fs cs n) n)) (repB (gainG fs cs n) n) (W.drewN m) (by rw [tab_len]; omega) (by rw [tab_len]; exact f1) (tab_get _ _ _ f1) (fun j hj => by rw [tab_get _ _ _ (by omega)]; have := f3 j hj; omega) hsl)
    rw [tab_len, hmx] at HM
    have hc := hv.cell
    have HR := Lib.hid (show repB (gainG fs cs n) n = repL fs n cs from rfl)
    have HBW := Lib.hid (HbW.out.trans ((hB.below (m := w.heap.size) (by have := HzW.out; omega) (by omega))))
    clear hmx f1 f2 f3 hsl hym hys hrow
    generalize gainG fs cs n (repB (gainG fs cs n) n) = MX at *
    generalize repB (gainG fs cs n) n = RR at *
    gi_wp2
    refine wpIn_wide.2 ?_
    go_quiet (first | (go_at_call 128; exact Calls.quiet_of ((HM.out _).mono fun e z h => ⟨h.1, 0, h.2.symm⟩)) | (go_at_call 127; exact Calls.quiet_of ((HI.out _).mono fun e z h => ⟨h.1, 0, h.2.symm⟩)))
    gi_wp2
    refine ⟨by simp, .inl ⟨_, _, rfl, run_takeDeferred (w := W.drewN nq) hK, ?_⟩⟩
    exact ⟨_, results_tmp rfl _ _ _, by rw [HR.out]; rfl, below_drewN HBW.out nq |>.trans (belowK_b (w := w) (Nat.le_refl _) (W.drewN nq) D _ _ (by have := HzW.out; omega) hK rfl rfl)⟩
  case stop =>
    rintro D c pre W _ _ h _
    exact h.elim
end Go.Proofs.Ytodmaomngpnboaa
