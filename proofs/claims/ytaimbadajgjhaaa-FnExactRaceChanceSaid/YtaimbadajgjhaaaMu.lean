/- Contracts: sums of dice, the program: the closure, the map of sums. -/
import Derived.Test.YtaimbadajgjhaaaMt
import Derived.Test.YtaimbadajgjhaaaVb
set_option linter.unusedVariables false
namespace Go.Proofs.Ytaimbadajgjhaaa
open Go.RowKit Go.Maps

theorem lit5 (w : World) (N : Nat) (x1 v1 : Int) (h1 : (Lit.int .i64 x1).wf = true) (g1 : (Lit.int .i64 v1).wf = true) (b1 : 0 ≤ x1 ∧ x1 < N) :
    ∃ W1 : World, (Instr.mapUpdate 69 (.map (some w.heap.size)) (.int .i64 x1) (.int .i64 v1)).run Try.prog (w.alloc (.map #[] 0)) = .ok () W1 ∧ TV W1 w.heap.size 1 N (upd (fun _ => 0) x1 v1) ∧ (w.alloc (.map #[] 0)).grownBy W1 (some w.heap.size) := by
  obtain ⟨D, ho, hr, hk⟩ := TV.made w N
  obtain ⟨W1, r1, o1, q1⟩ := ho.update lawI Try.underlying69 (by unfold maxLen; omega) (keyOf_int_mk Try.underlying2 h1) (plainElem_int Try.underlying2 g1)
  exact ⟨W1, r1, ⟨_, o1, put_reads ho.isMap hr x1 v1, put_keys ho.isMap hk x1 _ b1.1 b1.2⟩, q1⟩
set_option maxRecDepth 100000 in
set_option maxHeartbeats 4000000 in
theorem clo_sums (fs : List Int) (sv : Value) (B s N : Nat) (w : World) (hd : dieB fs = true) (hs : s ≤ 1000) (hN : ∀ i, i < fs.length → 0 ≤ fs.getD i 0 ∧ (s : Int) + fs.getD i 0 < N) (c1 : w.cell? ⟨B, 0, none⟩ = some sv) (h : Sl (Value.int .i64) 0 w sv fs) :
    Calls Try.prog 98 #[.int .i64 (s : Int), .pointer (some ⟨B, 0, none⟩)] w fun e w' => ∃ bm, e = .returned (.map (some bm)) ∧ TV w' bm 1000 N (faceM fs s fs.length) ∧ w.heap.size ≤ bm ∧ Below w.heap.size w w' := by
  obtain ⟨p, cap, rfl, hf⟩ := h
  have Hf := Lib.hid hf
  obtain ⟨d1, d12, da, -⟩ := dieB_at hd
  have Ha := Lib.hid da
  have HN := Lib.hid hN
  have Hst := Lib.hid (fun i k => faceM_succ fs s i k)
  have Hbd := Lib.hid (fun i k => faceM_bd fs s i k)
  have Hz : Hid (∀ k, faceM fs s 0 k = 0) := Lib.hid (fun _ => rfl)
  have hB : B < w.heap.size := World.block_lt_of_cell? _ _ c1
  have hmm := @run_makeMap Try.prog
  clear hf da hN hd
  obtain ⟨n, hn1⟩ : ∃ n, n = fs.length := ⟨_, rfl⟩
  rw [← hn1] at d1 d12 Ha HN Hf c1
  rw [← hn1]
  clear hn1
  go_enter Try.func98, Try.ntmps98
  have c1a : (w.alloc (.map #[] 0)).cell? ⟨B, 0, none⟩ = some (.slice p n cap) := (World.cell?_alloc_past _ _ _ hB).trans c1
  go_wp2
  clear c1a hmm
  go_loopw [11] (fun i wr => ∃ j : Nat, j ≤ n ∧ i = .int .i64 (j : Int) ∧ TV wr w.heap.size j N (faceM fs s j) ∧ w.heap.size < wr.heap.size ∧ Hid (Below w.heap.size w wr)) (fun i _ => n - (intOf i).toNat)
  case atStart => exact ⟨0, Nat.zero_le _, rfl, (TV.made w N).congr (fun k => (Hz.out k).symm), by simp, Lib.hid ((Below.refl _ w).alloc (Nat.le_refl _) _)⟩
  case round =>
    obtain ⟨j, hj, rfl, htv, hsz, hb⟩ := hrel
    by_cases hlt : j < n
    · obtain ⟨hcap, b, off, rfl, hbs, hcell⟩ := Hf.out (by omega)
      have e1 := cell_keep hb.out (hcell j hlt)
      clear hcell
      obtain ⟨a0, a1⟩ := Ha.out j hlt
      obtain ⟨-, n1⟩ := HN.out j hlt
      have hst := Hst.out j
      obtain ⟨D, hown, hat, hks⟩ := htv
      have Hat := Lib.hid hat
      generalize fs.getD j 0 = x at *
      obtain ⟨v0, v1⟩ := Hbd.out j ((s : Int) + x)
      have hatX := hat ((s : Int) + x)
      have hX0 : Hid (faceM fs s j ((s : Int) + x) = faceM fs s j ((s : Int) + x)) := Lib.hid rfl
      generalize hX : faceM fs s j ((s : Int) + x) = X at hatX v0 v1
      have HX := Lib.hid hX
      have Hks := Lib.hid hks
      have hwy : (Lit.int .i64 ((s : Int) + x)).wf = true := WalkArith.wf_i64 (by omega)
      have Hst2 := Lib.hid hst
      clear hX hat hks hst hX0
      go_wp2_with (first
        | (at_lookup; refine wpList_lookup_own_int _ rfl _ _ 69 rfl 2 2 .i64 lawI Try.underlying69 Try.underlying2 (zeroI _) w.heap.size j D rfl hown _ _ rfl (keyOf_int_mk Try.underlying2 hwy) ?_; intro v hatv hwv; obtain rfl : v = X := (by rw [hatX] at hatv; injection hatv with h; injection h with _ h; exact h.symm))
        | (at_mapUpdate; refine wpList_mapUpdate_own _ rfl _ _ _ 69 rfl 2 2 lawI Try.underlying69 _ w.heap.size j D rfl hown (by unfold maxLen; omega) _ _ _ rfl rfl (keyOf_int_mk Try.underlying2 hwy) _ [] (plainElem_int Try.underlying2 (WalkArith.wf_i64 (by omega))) ?_; intro w5 hown5 hg5; go_frame)
        | go_in)
      have hz5 := hg5.size
      go_roundw
      case rel =>
        refine ⟨j + 1, by omega, by go_num, ⟨_, hown5, fun k => ?_, fun k => put_keys hown.isMap Hks.out ((s : Int) + x) _ (by omega) n1 k⟩, by omega, Lib.hid (hb.out.grown hg5 (by have := hb.out.size; omega) (fun i hi => by cases hi; exact Nat.le_refl _))⟩
        rw [put_reads hown.isMap Hat.out ((s : Int) + x) _ k]
        congr 2
        unfold upd
        rw [Hst2.out k]
        by_cases e : k = (s : Int) + x
        · subst e; rw [if_pos rfl, if_pos rfl, HX.out]
        · rw [if_neg e, if_neg (fun h => e h.symm), Int.add_zero]
      case measure => simp [intOf]; omega
    · obtain rfl : j = n := by omega
      go_wp2
      go_ret
      exact ⟨_, rfl, htv.mono (by omega) (Nat.le_refl _), Nat.le_refl _, hb.out⟩
end Go.Proofs.Ytaimbadajgjhaaa
