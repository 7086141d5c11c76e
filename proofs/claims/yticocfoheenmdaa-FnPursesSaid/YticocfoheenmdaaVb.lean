/- t -/
import Derived.Test.YticocfoheenmdaaVa
set_option linter.unusedVariables false
namespace Go.Proofs.Yticocfoheenmdaa
open Go.RowKit Go.Maps

theorem lit2 (w : World) (N : Nat) (x1 v1 x2 v2 : Int) (h1 : (Lit.int .i64 x1).wf = true) (g1 : (Lit.int .i64 v1).wf = true) (h2 : (Lit.int .i64 x2).wf = true) (g2 : (Lit.int .i64 v2).wf = true) (b1 : 0 ≤ x1 ∧ x1 < N) (b2 : 0 ≤ x2 ∧ x2 < N) :
    ∃ W1 W2 : World, (Instr.mapUpdate 53 (.map (some w.heap.size)) (.int .i64 x1) (.int .i64 v1)).run Try.prog (w.alloc (.map #[] 0)).drew = .ok () W1 ∧ (Instr.mapUpdate 53 (.map (some w.heap.size)) (.int .i64 x2) (.int .i64 v2)).run Try.prog W1 = .ok () W2 ∧
      TV W2 w.heap.size 2 N (upd (upd (fun _ => 0) x1 v1) x2 v2) ∧ (w.alloc (.map #[] 0)).drew.grownBy W1 (some w.heap.size) ∧ W1.grownBy W2 (some w.heap.size) := by
  obtain ⟨D, ho, hr, hk⟩ := TV.made w N
  have ho' : (w.alloc (.map #[] 0)).drew.ownsMap Try.prog 2 (plainElem (H := Unit) Try.prog 2) w.heap.size 0 D := ho
  obtain ⟨W1, r1, o1, q1⟩ := ho'.update lawI Try.underlying53 (by unfold maxLen; omega) (keyOf_int_mk Try.underlying2 h1) (plainElem_int Try.underlying2 g1)
  obtain ⟨W2, r2, o2, q2⟩ := o1.update lawI Try.underlying53 (by unfold maxLen; omega) (keyOf_int_mk Try.underlying2 h2) (plainElem_int Try.underlying2 g2)
  exact ⟨W1, W2, r1, r2, ⟨_, o2, put_reads o1.isMap (put_reads ho.isMap hr x1 v1) x2 v2, put_keys o1.isMap (put_keys ho.isMap hk x1 _ b1.1 b1.2) x2 _ b2.1 b2.2⟩, q1, q2⟩
set_option maxHeartbeats 1000000 in
theorem clo_coupon (kinds : Int) (B k N : Nat) (w : World) (hk1 : kinds ≤ 10) (hk0 : 1 ≤ kinds) (hk : k + 1 < N) (hN : N ≤ 1000) (c1 : w.cell? ⟨B, 0, none⟩ = some (.int .i64 kinds)) :
    Calls Try.prog 36 #[.int .i64 (k : Int), .pointer (some ⟨B, 0, none⟩)] w fun e w' => ∃ bm, e = .returned (.map (some bm)) ∧ TV w' bm 1000 N (upd (upd (fun _ => 0) k k) ((k : Int) + 1) (kinds - k)) ∧ w.heap.size ≤ bm ∧ Below w.heap.size w w' := by
  obtain ⟨W1, W2, r1, r2, ht, q1, q2⟩ := lit2 w N (k : Int) (k : Int) ((k : Int) + 1) (kinds - k) (WalkArith.wf_i64 (by omega)) (WalkArith.wf_i64 (by omega)) (WalkArith.wf_i64 (by omega)) (WalkArith.wf_i64 (by omega)) (by omega) (by omega)
  have hB : B < w.heap.size := World.block_lt_of_cell? _ _ c1
  have c2 : (w.alloc (.map #[] 0)).cell? ⟨B, 0, none⟩ = some (.int .i64 kinds) := (World.cell?_alloc_past _ _ _ hB).trans c1
  have c3 : W1.cell? ⟨B, 0, none⟩ = some (.int .i64 kinds) := (World.cell?_of_block (a := ⟨B, 0, none⟩) (q1.block B (by simp; omega) (fun e => by have := Option.some.inj e; omega))).trans c2
  obtain ⟨V1, V2, s1, s2, hs, p1, p2⟩ := lit2 w N ((k : Int) + 1) (kinds - k) (k : Int) (k : Int) (WalkArith.wf_i64 (by omega)) (WalkArith.wf_i64 (by omega)) (WalkArith.wf_i64 (by omega)) (WalkArith.wf_i64 (by omega)) (by omega) (by omega)
  have c4 : V1.cell? ⟨B, 0, none⟩ = some (.int .i64 kinds) := (World.cell?_of_block (a := ⟨B, 0, none⟩) (p1.block B (by simp; omega) (fun e => by have := Option.some.inj e; omega))).trans c2
  have Hs := Lib.hid (hs.congr (g := upd (upd (fun _ => 0) k k) ((k : Int) + 1) (kinds - k)) (fun x => by unfold upd; split <;> split <;> first | rfl | omega))
  have hb' : Below w.heap.size w V2 := ((below_drewN ((Below.refl _ w).alloc (Nat.le_refl _) (.map #[] 0)) 1).grown p1 (by simp) (fun j hj => by cases hj; exact Nat.le_refl _)).grown p2 (by have := p1.size; simp at this; omega) (fun j hj => by cases hj; exact Nat.le_refl _)
  have Hb' := Lib.hid hb'
  clear hs p1 p2 hb'
  have hmm := @run_makeMap Try.prog
  have Ht := Lib.hid ht
  have hb : Below w.heap.size w W2 := ((below_drewN ((Below.refl _ w).alloc (Nat.le_refl _) (.map #[] 0)) 1).grown q1 (by simp) (fun j hj => by cases hj; exact Nat.le_refl _)).grown q2 (by have := q1.size; simp at this; omega) (fun j hj => by cases hj; exact Nat.le_refl _)
  have Hb := Lib.hid hb
  have hw1 : IntKind.i64.wrap ((k : Int) + 1) = (k : Int) + 1 := IntWalk.i64_in _ (by omega)
  have hw2 : IntKind.i64.wrap (kinds - (k : Int)) = kinds - (k : Int) := IntWalk.i64_in _ (by omega)
  clear ht q1 q2 hb
  go_enter Try.func36, Try.ntmps36
  go_wp2
  go_region
  all_goals
    go_wp2
    go_ret
    first | exact ⟨_, rfl, Ht.out.mono (by omega) (Nat.le_refl _), Nat.le_refl _, Hb.out⟩ | exact ⟨_, rfl, Hs.out.mono (by omega) (Nat.le_refl _), Nat.le_refl _, Hb'.out⟩
set_option maxRecDepth 100000 in
set_option maxHeartbeats 1000000 in
theorem upTo_any (bt n0 N L : Nat) (f : Int → Int) (w : World) (ht : TV w bt n0 N f) (hL : L ≤ 1000) :
    Calls Try.prog 34 #[.map (some bt), .int .i64 (L : Int)] w fun e w' => ∃ r, e = .returned r ∧ Sw (Value.int .i64) 0 w' r (tab (L + 1) fun k => f (k : Int)) w.heap.size w'.heap.size ∧ Below w.heap.size w w' := by
  obtain ⟨D, hown, hat, hks⟩ := ht
  have Hat := Lib.hid hat
  have Ho := Lib.hid hown
  have hbl := hown.lt
  obtain ⟨i0, hi, hz0, hz1, hz2⟩ := info_parts (show (Try.prog.info? 2).map (fun i => (i.zero, i.size, i.bytes)) = some (some (.int .i64 0), 1, 8) by kernel_rfl)
  clear hat hks hown
  obtain ⟨n, hn⟩ : ∃ n, n = L + 1 := ⟨_, rfl⟩
  have hn1 : (L : Int) + 1 = (n : Int) := by omega
  rw [← hn]
  clear hn
  go_enter Try.func34, Try.ntmps34
  go_wp2_with (at_make; refine wpList_make_full _ rfl _ _ 31 rfl w.heap.size 2 i0 (.int .i64 0) 1 (by kernel_rfl) hi hz0 hz1 .i64 .i64 n n n rfl rfl rfl rfl (by rw [hz2]; omega) (by unfold maxLen; omega) (Nat.le_refl _) ?_; intro w1 hrow hgrow)
  have hbel : Below w.heap.size w w1 := (Below.refl _ w).grown hgrow (Nat.le_refl _) (by simp)
  have Hrow := Lib.hid hrow
  have Hbel := Lib.hid hbel
  clear hrow hbel hgrow
  go_loopw [12] (fun i wr => ∃ k : Nat, k ≤ n ∧ i = .int .i64 k ∧ wr.ownsRow w.heap.size 2 1 (.slice (some ⟨w.heap.size, 0, none⟩) n n) n ((filled n (fun k => f (k : Int)) k).map (Value.int .i64)) ∧ Below w.heap.size w wr) (fun i _ => n - (intOf i).toNat)
  case atStart =>
    refine ⟨0, Nat.zero_le _, rfl, ?_, Hbel.out⟩
    have h0 := Hrow.out
    have e : (madeCells (Value.int .i64 0).cells (n * 1)).toList = (filled n (fun k => f (k : Int)) 0).map (Value.int .i64) := by
      rw [filled_zero, Nat.mul_one, List.map_replicate]
      exact made1 _ n
    rw [e] at h0
    exact h0
  case round =>
    obtain ⟨k, hk, rfl, hrow, hb⟩ := hrel
    have Hrow := Lib.hid hrow
    have Hb := Lib.hid hb
    have hsz := hb.size
    clear hrow hb
    by_cases hlt : k < n
    · have c2 : wr.cell? ⟨w.heap.size, k, none⟩ = some (.int .i64 0) := by
        rw [Hrow.out.cellAt k (by omega), List.getElem?_map, filled_at n _ k hlt]; rfl
      have c3 := Hrow.out.frozenAt k
      obtain ⟨hs1, _⟩ := Hrow.out.stored k (.int .i64 (f (k : Int)))
      rw [← List.map_set, filled_set n (fun k => f (k : Int)) k hlt] at hs1
      have Hs1 := Lib.hid hs1
      have hownr := Ho.out.kept (grown_of_below (w := w) (w' := wr) Hb.out) (by simp)
      have hkey : keyOf Try.prog 2 (.int .i64 (k : Int)) = some (.int .i64 (k : Int)) := keyOf_int_mk Try.underlying2 (WalkArith.wf_i64 (by omega))
      clear hs1
      go_wp2_with (first
        | (at_lookup; refine wpList_lookup_own_int _ rfl _ _ 53 rfl 2 2 .i64 lawI Try.underlying53 Try.underlying2 (zeroI _) bt n0 D rfl hownr _ _ rfl hkey ?_; intro v hatv hwv; obtain rfl : v = f (k : Int) := (by rw [Hat.out] at hatv; injection hatv with h; injection h with _ h; exact h.symm))
        | go_in)
      go_roundw
      case rel => exact ⟨k + 1, by omega, by go_num, Hs1.out, Hb.out.setCell (Nat.le_refl _) _⟩
      case measure => simp [intOf]; omega
    · obtain rfl : k = n := by omega
      go_wp2
      go_ret
      have h0 := Hrow.out
      rw [filled_done] at h0
      exact ⟨_, rfl, Sw.of_owns h0 (tab_len _ _), Hb.out⟩
theorem tab_set (n : Nat) (g : Nat → Int) (k : Nat) (v : Int) : (tab n g).set k v = tab n (fun j => if j = k then v else g j) := by
  apply List.ext_getElem
  · simp [tab]
  · intro i h1 h2
    simp only [tab, List.getElem_set, List.getElem_map, List.getElem_range]
    by_cases e : k = i
    · subst e; simp
    · rw [if_neg e, if_neg (fun h => e h.symm)]
end Go.Proofs.Yticocfoheenmdaa
