/- Contracts: dealing down and under, the program's function. -/
import Derived.Test.YtkhjeijcpldojaaUb
import Derived.Deep.RegionLawGrows
import Derived.ArgAppend
set_option linter.unusedVariables false
namespace Go.Proofs.Ytkhjeijcpldojaa
open Go.RowKit

/-- what the function keeps: the cards that are left, behind the cell bc, and never in block D -/
def Lf (s0 D bc n k : Nat) (w : World) : Prop := ∃ b off cap, w.cell? ⟨bc, 0, none⟩ = some (.slice (some ⟨b, off, none⟩) (n - k) cap) ∧ w.frozen? ⟨bc, 0, none⟩ = false ∧ n - k ≤ cap ∧ s0 ≤ b ∧ b ≠ D ∧ b ≠ bc ∧ D < w.heap.size ∧
  (∀ i, i < n - k → w.cell? ⟨b, off + i, none⟩ = some (.int .i64 ((duS n k).getD i 0))) ∧ (∀ i, i < cap → (w.cell? ⟨b, off + i, none⟩).isSome = true ∧ w.frozen? ⟨b, off + i, none⟩ = false)

theorem Lf.keep {s0 D bc n k : Nat} {w w' : World} (h : Lf s0 D bc n k w) (hd : bc ≠ D) (hs : w.heap.size ≤ w'.heap.size) (hk : ∀ x, x ≠ D → x < w.heap.size → w'.heap[x]? = w.heap[x]?) : Lf s0 D bc n k w' := by
  obtain ⟨b, off, cap, h1, h2, h3, h4, h5, h6, h7, h8, h9⟩ := h
  have e1 := hk bc hd (World.block_lt_of_cell? _ _ h1)
  refine ⟨b, off, cap, (World.cell?_of_block (w := w) e1).trans h1, (World.frozen?_of_block (w := w) e1).trans h2, h3, h4, h5, h6, by omega, fun i hi => ?_, fun i hi => ?_⟩
  · exact (World.cell?_of_block (w := w) (hk b h5 (World.block_lt_of_cell? _ _ (h8 i hi)))).trans (h8 i hi)
  · obtain ⟨u, hu⟩ := Option.isSome_iff_exists.1 (h9 i hi).1
    have e2 := hk b h5 (World.block_lt_of_cell? _ _ hu)
    exact ⟨by rw [World.cell?_of_block (w := w) e2]; exact (h9 i hi).1, (World.frozen?_of_block (w := w) e2).trans (h9 i hi).2⟩

theorem duN_get (L : List Int) (m i : Nat) (h : L.length = m + 2) (hi : i < m + 1) : (duN L).getD i 0 = if i < m then L.getD (i + 2) 0 else L.getD 1 0 := by
  match L, h with
  | x :: y :: t, h =>
    have ht : t.length = m := by simp at h; exact h
    show (t ++ [y]).getD i 0 = _
    split
    · rename_i hlt
      simp [List.getD, List.getElem?_append, show i < t.length by omega]
    · rename_i hlt
      obtain rfl : i = m := by omega
      simp [List.getD, ht]

/-- behind the append in place -/
def DuZ (b at' : Nat) (y : Int) (w W Z : World) : Prop := (∀ x, x ≠ b → x < W.heap.size → Z.heap[x]? = W.heap[x]?) ∧ Z.cell? ⟨b, at', none⟩ = some (.int .i64 y) ∧ (∀ j, j ≠ at' → Z.cell? ⟨b, j, none⟩ = w.cell? ⟨b, j, none⟩) ∧ (∀ j, Z.frozen? ⟨b, j, none⟩ = w.frozen? ⟨b, j, none⟩)

set_option maxHeartbeats 1000000 in
theorem clo_du (s0 D bc n k : Nat) (w : World) (hk : k < n) (hn : n ≤ 52) (hs : s0 ≤ bc) (hd : bc ≠ D) (h : Lf s0 D bc n k w) :
    Calls Try.prog 47 #[.int .i64 (k : Int), .pointer (some ⟨bc, 0, none⟩)] w fun e w' => e = .returned (.int .i64 (duG n k)) ∧ Lf s0 D bc n (k + 1) w' ∧ w'.heap[D]? = w.heap[D]? ∧ Below s0 w w' := by
  obtain ⟨b, off, cap, c1, f1, hcap, hb0, hbD, hbb, hD, hcells, hspare⟩ := h
  have Hlen := Lib.hid (duS_len n k)
  have HSk : Hid (duS n (k + 1) = duN (duS n k)) := Lib.hid rfl
  have hG : duG n k = (duS n k).getD 0 0 := rfl
  rw [hG]
  have cx := hcells 0 (by omega)
  rw [Nat.add_zero] at cx
  generalize duS n k = L at *
  obtain ⟨l, hl⟩ : ∃ l, n - k = l + 1 := ⟨n - k - 1, by omega⟩
  have hl1 : n - (k + 1) = l := by omega
  rw [hl] at c1 hcap hcells
  have hbw : Below s0 w (w.setCell ⟨bc, 0, none⟩ (.int .i64 0)) := (Below.refl _ w).setCell hs _
  have Hsp := Lib.hid hspare
  have Hce := Lib.hid hcells
  clear hcells hspare
  by_cases hl0 : l = 0
  · subst hl0
    have hdone : ∀ o c, (∀ i, i < c → ∃ j, j < cap ∧ o + i = off + j) → Lf s0 D bc n (k + 1) (w.setCell ⟨bc, 0, none⟩ (.slice (some ⟨b, o, none⟩) 0 c)) ∧ (w.setCell ⟨bc, 0, none⟩ (.slice (some ⟨b, o, none⟩) 0 c)).heap[D]? = w.heap[D]? := fun o c hoc => by
      refine ⟨⟨b, o, c, ?_, ?_, by omega, hb0, hbD, hbb, ?_, fun i hi => by omega, fun i hi => ?_⟩, Below.heap_setCell _ _ _ _ (fun e => hd (by simpa using e.symm))⟩
      · rw [hl1]; exact World.cell?_setCell_same _ _ _ c1
      · rw [World.frozen?_setCell]; exact f1
      · simpa [World.setCell] using hD
      · obtain ⟨j, hj, e⟩ := hoc i hi
        rw [e, World.frozen?_setCell, World.cell?_setCell_far _ _ _ _ (by simpa using Ne.symm hbb)]
        exact Hsp.out j hj
    have Hdone := Lib.hid hdone
    clear hdone
    by_cases hc1 : cap = 1
    · subst hc1
      go_enter Try.func47, Try.ntmps47
      go_wp2
      go_ret
      have h := Hdone.out off 0 (fun i hi => by omega)
      exact ⟨rfl, h.1, h.2, (Below.refl _ w).setCell hs _⟩
    · have hc2 : (1 : Int) < (cap : Int) := by omega
      go_enter Try.func47, Try.ntmps47
      go_wp2
      go_ret
      have h := Hdone.out (off + 1) (cap - 1) (fun i hi => ⟨i + 1, by omega, by omega⟩)
      exact ⟨rfl, h.1, h.2, (Below.refl _ w).setCell hs _⟩
  · obtain ⟨m, rfl⟩ : ∃ m, l = m + 1 := ⟨l - 1, by omega⟩
    obtain ⟨c, rfl⟩ : ∃ c, cap = c + 2 := ⟨cap - 2, by omega⟩
    have cy := Hce.out 1 (by omega)
    have HLl : Hid (L.length = m + 2) := Lib.hid (by rw [Hlen.out, hl])
    have HOl : Hid (((L.drop 2).map (Value.int .i64)).length = m * 1) := Lib.hid (by rw [List.length_map, List.length_drop, HLl.out]; omega)
    obtain ⟨i0, hi, hz0, hz1, hz2⟩ := info_parts (show (Try.prog.info? 2).map (fun i => (i.zero, i.size, i.bytes)) = some (some (.int .i64 0), 1, 8) by kernel_rfl)
    have HY : Hid (∀ i, i < m + 1 → (duN L).getD i 0 = if i < m then L.getD (i + 2) 0 else L.getD 1 0) := Lib.hid (fun i h => duN_get L m i HLl.out h)
    generalize L.getD 0 0 = x at *
    generalize L.getD 1 0 = y at *
    have q0 : (0 : Int) < (m : Int) + 1 := by omega
    have q1 : (1 : Int) ≤ (m : Int) + 1 := by omega
    by_cases hc0 : c = 0
    · subst hc0
      · obtain rfl : m = 0 := by omega
        go_enter Try.func47, Try.ntmps47
        go_upto_region 4 with (fail)
        have w1 : (w.setCell ⟨bc, 0, none⟩ (.slice (some ⟨b, off + 1, none⟩) 1 1)).cell? ⟨bc, 0, none⟩ = some (.slice (some ⟨b, off + 1, none⟩) 1 1) := World.cell?_setCell_same _ _ _ c1
        have w2 : (w.setCell ⟨bc, 0, none⟩ (.slice (some ⟨b, off + 1, none⟩) 1 1)).frozen? ⟨bc, 0, none⟩ = false := (World.frozen?_setCell ..).trans f1
        have w3 : (w.setCell ⟨bc, 0, none⟩ (.slice (some ⟨b, off + 1, none⟩) 1 1)).cell? ⟨b, off + 1, none⟩ = some (.int .i64 y) := (World.cell?_setCell_far _ _ _ _ (by simpa using Ne.symm hbb)).trans cy
        have w4 : Hid (∀ x, x ≠ bc → (w.setCell ⟨bc, 0, none⟩ (.slice (some ⟨b, off + 1, none⟩) 1 1)).heap[x]? = w.heap[x]?) := Lib.hid (fun x hx => Below.heap_setCell _ _ _ _ (by simpa using hx))
        have w5 : Below s0 w (w.setCell ⟨bc, 0, none⟩ (.slice (some ⟨b, off + 1, none⟩) 1 1)) := (Below.refl _ w).setCell hs _
        generalize (w.setCell ⟨bc, 0, none⟩ (.slice (some ⟨b, off + 1, none⟩) 1 1)) = W at *
        have hbcW : bc < W.heap.size := World.block_lt_of_cell? _ _ w1
        have BA := Lib.hid ((Below.refl W.heap.size W).alloc (Nat.le_refl _) (.cells #[.int .i64 y] 2))
        have HH : Hid (∀ j u, ((L.drop 2).map (Value.int .i64))[j]? = some u → (W.alloc (.cells #[.int .i64 y] 2)).cell? ((⟨b, off + 1, none⟩ : Addr).add j) = some u) := Lib.hid (fun j u hj => by
          have hjl : j < 0 := by
            have := (List.getElem?_eq_some_iff.1 hj).1
            rw [HOl.out] at this; omega
          rw [List.getElem?_map, List.getElem?_drop, List.getElem?_eq_getElem (by rw [HLl.out]; omega)] at hj
          have hc9 := Hce.out (2 + j) (by omega)
          have hbl : b < w.heap.size := World.block_lt_of_cell? _ _ hc9
          have e2 : (W.alloc (.cells #[.int .i64 y] 2)).heap[b]? = w.heap[b]? := (Below.heap_alloc W _ b (Nat.lt_of_lt_of_le hbl w5.size)).trans (w4.out b hbb)
          have ea : (⟨b, off + 1, none⟩ : Addr).add j = ⟨b, off + (2 + j), none⟩ := by
            unfold Addr.add
            split
            · subst j; simp <;> omega
            · simp <;> omega
          rw [ea, World.cell?_of_block (w := w) e2, hc9, ← hj]
          simp [List.getD, show 2 + j < L.length by rw [HLl.out]; omega])
        have wa0 : (W.alloc (.cells #[.int .i64 y] 2)).cell? ⟨bc, 0, none⟩ = some (.slice (some ⟨b, off + 1, none⟩) 1 1) := (World.cell?_alloc_past _ _ _ hbcW).trans w1
        have wa1 : (W.alloc (.cells #[.int .i64 y] 2)).drew.cell? ⟨bc, 0, none⟩ = some (.slice (some ⟨b, off + 1, none⟩) 1 1) := wa0
        have wa2 : (W.drew.alloc (.cells #[.int .i64 y] 2)).cell? ⟨bc, 0, none⟩ = some (.slice (some ⟨b, off + 1, none⟩) 1 1) := wa0
        have wa3 : (W.drew.alloc (.cells #[.int .i64 y] 2)).drew.cell? ⟨bc, 0, none⟩ = some (.slice (some ⟨b, off + 1, none⟩) 1 1) := wa0
        have wa4 : W.drew.cell? ⟨bc, 0, none⟩ = some (.slice (some ⟨b, off + 1, none⟩) 1 1) := w1
        have wa5 : W.drew.cell? ⟨b, off + 1, none⟩ = some (.int .i64 y) := w3
        go_region_law ((refine step_append_grows (by rfl) (.tmp 14) (.tmp 18) 22 (by rfl) 2 i0 (.int .i64 0) 1 8 (by kernel_rfl) hi hz0 hz1 hz2 rfl (by omega) (some ⟨b, off + 1, none⟩) 0 0 ((L.drop 2).map (Value.int .i64)) (by rfl) (by intro h; cases h) HOl.out (fun b' h => by cases h; exact HH.out) ⟨W.heap.size, 0, none⟩ 1 1 [.int .i64 y] (by rfl) (by rfl) (cell_one_new W _ _) (one_int _) (by omega) (by unfold maxLen; omega) (by omega) ?_; intro v3 Z hown hgrow; obtain ⟨b3, c3, hv3, z3, z4, z5⟩ : ∃ b3 c3, v3 = .slice (some ⟨b3, 0, none⟩) 1 c3 ∧ Hid (Below W.heap.size W Z) ∧ W.heap.size ≤ b3 ∧ Hid (∃ base, Z.ownsRow base 2 1 (.slice (some ⟨b3, 0, none⟩) 1 c3) 1 ((L.drop 2).map (Value.int .i64) ++ [.int .i64 y])) := (by obtain ⟨b3, c3, hv, g1, g2⟩ := hown.form (by omega); subst hv; exact ⟨b3, c3, rfl, Lib.hid (Below.grown (by first | exact BA.out | exact BA.out.drew | exact ⟨BA.out.os, BA.out.tape, BA.out.output, BA.out.size, BA.out.block⟩) hgrow (by simp) (fun _ h => by cases h)), Nat.le_trans (by simp) g1, Lib.hid ⟨_, hown⟩⟩); subst hv3; have z1 : Z.cell? ⟨bc, 0, none⟩ = some (.slice (some ⟨b, off + 1, none⟩) 1 1) := (z3.out.cell hbcW).trans w1; have z2 : Z.frozen? ⟨bc, 0, none⟩ = false := (z3.out.frozen hbcW).trans w2; clear hown hgrow))
        all_goals
          have hfin : Hid (Lf s0 D bc n (k + 1) (Z.setCell ⟨bc, 0, none⟩ (.slice (some ⟨b3, 0, none⟩) 1 c3)) ∧ (Z.setCell ⟨bc, 0, none⟩ (.slice (some ⟨b3, 0, none⟩) 1 c3)).heap[D]? = w.heap[D]? ∧ Below s0 w (Z.setCell ⟨bc, 0, none⟩ (.slice (some ⟨b3, 0, none⟩) 1 c3))) := Lib.hid (by
            obtain ⟨base, ho⟩ := z5.out
            have hDW : D < W.heap.size := Nat.lt_of_lt_of_le hD w5.size
            have hlL := HLl.out
            refine ⟨⟨b3, 0, c3, ?_, ?_, ?_, by omega, by omega, by omega, ?_, fun i hi => ?_, fun i hi => ?_⟩, ?_, (w5.trans (z3.out.mono (by omega))).setCell hs _⟩
            · rw [hl1]; exact World.cell?_setCell_same _ _ _ z1
            · rw [World.frozen?_setCell]; exact z2
            · rw [hl1]; exact own_cap ho
            · exact Nat.lt_of_lt_of_le hDW (by have := z3.out.size; simpa [World.setCell] using this)
            · rw [World.cell?_setCell_far _ _ _ _ (by simp; omega), HSk.out, HY.out i (by omega), Nat.zero_add, ho.cellAt i (by omega)]
              split
              · rw [List.getElem?_append_left (by simp; omega), List.getElem?_map, List.getElem?_drop, List.getElem?_eq_getElem (by omega)]
                simp [List.getD, show i + 2 < L.length by omega, Nat.add_comm]
              · rw [List.getElem?_append_right (by simp; omega)]
                simp [show i - (L.length - 2) = 0 by omega]
            · rw [World.cell?_setCell_far _ _ _ _ (by simp; omega), World.frozen?_setCell, Nat.zero_add]
              refine ⟨?_, ho.frozenAt i⟩
              rcases ho.2 with ⟨h, _⟩ | ⟨g', cap', cur, hv, -, hg, -, -, hsz, -⟩
              · cases h
              · cases hv
                simp [World.cell?, hg]
                omega
            · exact (Below.heap_setCell _ _ _ _ (by simpa using Ne.symm hd)).trans ((z3.out.block D hDW).trans (w4.out D (Ne.symm hd))))
          clear z3 z5 w4 HH BA
          go_wp2
          go_ret
          exact ⟨rfl, hfin.out.1, hfin.out.2.1, hfin.out.2.2⟩
    · by_cases hroom : m + 1 ≤ c
      · go_enter Try.func47, Try.ntmps47
        go_upto_region 4 with (fail)
        have w1 : (w.setCell ⟨bc, 0, none⟩ (.slice (some ⟨b, off + 1, none⟩) (m + 1) (c + 1))).cell? ⟨bc, 0, none⟩ = some (.slice (some ⟨b, off + 1, none⟩) (m + 1) (c + 1)) := World.cell?_setCell_same _ _ _ c1
        have w2 : (w.setCell ⟨bc, 0, none⟩ (.slice (some ⟨b, off + 1, none⟩) (m + 1) (c + 1))).frozen? ⟨bc, 0, none⟩ = false := (World.frozen?_setCell ..).trans f1
        have w3 : (w.setCell ⟨bc, 0, none⟩ (.slice (some ⟨b, off + 1, none⟩) (m + 1) (c + 1))).cell? ⟨b, off + 1, none⟩ = some (.int .i64 y) := (World.cell?_setCell_far _ _ _ _ (by simpa using Ne.symm hbb)).trans cy
        have w4 : Hid (∀ x, x ≠ bc → (w.setCell ⟨bc, 0, none⟩ (.slice (some ⟨b, off + 1, none⟩) (m + 1) (c + 1))).heap[x]? = w.heap[x]?) := Lib.hid (fun x hx => Below.heap_setCell _ _ _ _ (by simpa using hx))
        have w5 : Below s0 w (w.setCell ⟨bc, 0, none⟩ (.slice (some ⟨b, off + 1, none⟩) (m + 1) (c + 1))) := (Below.refl _ w).setCell hs _
        generalize (w.setCell ⟨bc, 0, none⟩ (.slice (some ⟨b, off + 1, none⟩) (m + 1) (c + 1))) = W at *
        have hsp : Hid (∀ j, j < [Value.int .i64 y].length → ((W.alloc (.cells #[.int .i64 y] 2)).cell? ⟨b, off + 2 + m * 1 + j, none⟩).isSome = true ∧ (W.alloc (.cells #[.int .i64 y] 2)).frozen? ⟨b, off + 2 + m * 1 + j, none⟩ = false) := Lib.hid (fun j hj => by
          have h9 := Hsp.out (2 + m + j) (by simp at hj; omega)
          obtain ⟨u, hu⟩ := Option.isSome_iff_exists.1 h9.1
          have hbl : b < w.heap.size := World.block_lt_of_cell? _ _ hu
          have e1 := w4.out b hbb
          have hbW : b < W.heap.size := Nat.lt_of_lt_of_le hbl w5.size
          have e2 : (W.alloc (.cells #[.int .i64 y] 2)).heap[b]? = w.heap[b]? := (Below.heap_alloc W _ b hbW).trans e1
          rw [show off + 2 + m * 1 + j = off + (2 + m + j) by omega, World.cell?_of_block (w := w) e2, World.frozen?_of_block (w := w) e2]
          exact h9)
        have hZ1 : Hid (∀ vs o, ((W.alloc (.cells #[.int .i64 y] 2)).setCells b o vs).cell? ⟨bc, 0, none⟩ = some (.slice (some ⟨b, off + 1, none⟩) (m + 1) (c + 1)) ∧ ((W.alloc (.cells #[.int .i64 y] 2)).setCells b o vs).frozen? ⟨bc, 0, none⟩ = false) := Lib.hid (fun vs o => by
          have hbcW : bc < W.heap.size := World.block_lt_of_cell? _ _ w1
          refine ⟨?_, ?_⟩
          · rw [World.cell?_setCells_out _ _ _ _ _ (fun e => absurd e (by simpa using Ne.symm hbb)), World.cell?_alloc_past _ _ _ hbcW]; exact w1
          · rw [World.frozen?_setCells, World.frozen?_of_block (w := W) (Below.heap_alloc W _ bc hbcW)]; exact w2)
        have hc1 : (c = 0) = False := eq_false hc0
        have hq : (1 : Int) < (c : Int) + 1 := by omega
        have hbW : b < W.heap.size := by
          obtain ⟨u, hu⟩ := Option.isSome_iff_exists.1 (Hsp.out 0 (by omega)).1
          exact Nat.lt_of_lt_of_le (World.block_lt_of_cell? _ _ hu) w5.size
        have hZ2 : Hid (Below s0 W ((W.alloc (.cells #[.int .i64 y] 2)).setCells b (off + 2 + m * 1) [.int .i64 y])) := Lib.hid (((Below.refl s0 W).alloc (by omega) (.cells #[.int .i64 y] 2)).setCell (p := ⟨b, off + 2 + m * 1, none⟩) hb0 _)
        have hZ3 : Hid (DuZ b (off + 2 + m) y w W ((W.alloc (.cells #[.int .i64 y] 2)).setCells b (off + 2 + m * 1) [.int .i64 y])) := Lib.hid (by
          obtain ⟨u, hu⟩ := Option.isSome_iff_exists.1 (hsp.out 0 (by simp)).1
          rw [Nat.add_zero] at hu
          have eb : (W.alloc (.cells #[.int .i64 y] 2)).heap[b]? = w.heap[b]? := (Below.heap_alloc W _ b hbW).trans (w4.out b hbb)
          refine ⟨fun x h1 h2 => ?_, ?_, fun j hj => ?_, fun j => ?_⟩
          · exact (Below.heap_setCell _ _ _ _ (by simpa using h1)).trans (Below.heap_alloc _ _ _ h2)
          · have := World.cell?_setCell_same _ _ (.int .i64 y) hu
            rw [Nat.mul_one] at this ⊢
            exact this
          · refine (World.cell?_setCell_other _ _ _ _ (fun e => hj (by have h := congrArg Addr.off e; have h' : off + 2 + m * 1 = j := h; omega))).trans (World.cell?_of_block (w := w) eb)
          · exact (World.frozen?_setCells ..).trans (World.frozen?_of_block (w := w) eb))
        have wa0 : (W.alloc (.cells #[.int .i64 y] 2)).cell? ⟨bc, 0, none⟩ = some (.slice (some ⟨b, off + 1, none⟩) (m + 1) (c + 1)) := (World.cell?_alloc_past _ _ _ (World.block_lt_of_cell? _ _ w1)).trans w1
        have wa1 : (W.alloc (.cells #[.int .i64 y] 2)).drew.cell? ⟨bc, 0, none⟩ = some (.slice (some ⟨b, off + 1, none⟩) (m + 1) (c + 1)) := wa0
        have wa2 : (W.drew.alloc (.cells #[.int .i64 y] 2)).cell? ⟨bc, 0, none⟩ = some (.slice (some ⟨b, off + 1, none⟩) (m + 1) (c + 1)) := wa0
        have wa3 : (W.drew.alloc (.cells #[.int .i64 y] 2)).drew.cell? ⟨bc, 0, none⟩ = some (.slice (some ⟨b, off + 1, none⟩) (m + 1) (c + 1)) := wa0
        have wa4 : W.drew.cell? ⟨bc, 0, none⟩ = some (.slice (some ⟨b, off + 1, none⟩) (m + 1) (c + 1)) := w1
        have wa5 : W.drew.cell? ⟨b, off + 1, none⟩ = some (.int .i64 y) := w3
        go_region_law ((refine step_append_room (by rfl) (.tmp 14) (.tmp 18) 22 (by rfl) 2 i0 1 (by kernel_rfl) hi hz1 b (off + 2) m c (by rfl) ⟨W.heap.size, 0, none⟩ 1 1 [.int .i64 y] (by rfl) (by rfl) (cell_one_new W _ _) (one_int _) hroom hsp.out ?_; generalize hZ : World.setCells _ _ _ _ = Z; obtain ⟨z1, z2, z3, z4⟩ : Z.cell? ⟨bc, 0, none⟩ = some (.slice (some ⟨b, off + 1, none⟩) (m + 1) (c + 1)) ∧ Z.frozen? ⟨bc, 0, none⟩ = false ∧ Hid (Below s0 W Z) ∧ Hid (DuZ b (off + 2 + m) y w W Z) := (by subst hZ; exact ⟨(hZ1.out [.int .i64 y] (off + 2 + m * 1)).1, (hZ1.out [.int .i64 y] (off + 2 + m * 1)).2, Lib.hid ⟨hZ2.out.os, hZ2.out.tape, hZ2.out.output, hZ2.out.size, hZ2.out.block⟩, Lib.hid hZ3.out⟩); clear hZ))
        all_goals
          have hfin : Hid (Lf s0 D bc n (k + 1) (Z.setCell ⟨bc, 0, none⟩ (.slice (some ⟨b, off + 2, none⟩) (m + 1) c)) ∧ (Z.setCell ⟨bc, 0, none⟩ (.slice (some ⟨b, off + 2, none⟩) (m + 1) c)).heap[D]? = w.heap[D]? ∧ Below s0 w (Z.setCell ⟨bc, 0, none⟩ (.slice (some ⟨b, off + 2, none⟩) (m + 1) c))) := Lib.hid (by
            obtain ⟨k1, k2, k3, k4⟩ := z4.out
            have hDW : D < W.heap.size := Nat.lt_of_lt_of_le hD w5.size
            refine ⟨⟨b, off + 2, c, ?_, ?_, by omega, hb0, hbD, hbb, ?_, fun i hi => ?_, fun i hi => ?_⟩, ?_, (w5.trans z3.out).setCell hs _⟩
            · rw [hl1]; exact World.cell?_setCell_same _ _ _ z1
            · rw [World.frozen?_setCell]; exact z2
            · exact Nat.lt_of_lt_of_le hDW (by have := z3.out.size; simpa [World.setCell] using this)
            · rw [World.cell?_setCell_far _ _ _ _ (by simpa using Ne.symm hbb), HSk.out, HY.out i (by omega)]
              split
              · rw [k3 _ (by omega), show off + 2 + i = off + (i + 2) by omega]; exact Hce.out (i + 2) (by omega)
              · rw [show off + 2 + i = off + 2 + m by omega]; exact k2
            · rw [World.cell?_setCell_far _ _ _ _ (by simpa using Ne.symm hbb), World.frozen?_setCell, k4]
              have h9 := Hsp.out (2 + i) (by omega)
              refine ⟨?_, by rw [show off + 2 + i = off + (2 + i) by omega]; exact h9.2⟩
              by_cases e : i = m
              · subst e; rw [k2]; rfl
              · rw [k3 _ (by omega), show off + 2 + i = off + (2 + i) by omega]; exact h9.1
            · exact (Below.heap_setCell _ _ _ _ (by simpa using Ne.symm hd)).trans ((k1 D (Ne.symm hbD) hDW).trans (w4.out D (Ne.symm hd))))
          clear z3 z4 w4 hZ1 hZ2 hZ3
          go_wp2
          go_ret
          exact ⟨rfl, hfin.out.1, hfin.out.2.1, hfin.out.2.2⟩
      · have hfull : c < m + 1 := by omega
        have hc1 : (c = 0) = False := eq_false hc0
        have hq : (1 : Int) < (c : Int) + 1 := by omega
        go_enter Try.func47, Try.ntmps47
        go_upto_region 4 with (fail)
        have w1 : (w.setCell ⟨bc, 0, none⟩ (.slice (some ⟨b, off + 1, none⟩) (m + 1) (c + 1))).cell? ⟨bc, 0, none⟩ = some (.slice (some ⟨b, off + 1, none⟩) (m + 1) (c + 1)) := World.cell?_setCell_same _ _ _ c1
        have w2 : (w.setCell ⟨bc, 0, none⟩ (.slice (some ⟨b, off + 1, none⟩) (m + 1) (c + 1))).frozen? ⟨bc, 0, none⟩ = false := (World.frozen?_setCell ..).trans f1
        have w3 : (w.setCell ⟨bc, 0, none⟩ (.slice (some ⟨b, off + 1, none⟩) (m + 1) (c + 1))).cell? ⟨b, off + 1, none⟩ = some (.int .i64 y) := (World.cell?_setCell_far _ _ _ _ (by simpa using Ne.symm hbb)).trans cy
        have w4 : Hid (∀ x, x ≠ bc → (w.setCell ⟨bc, 0, none⟩ (.slice (some ⟨b, off + 1, none⟩) (m + 1) (c + 1))).heap[x]? = w.heap[x]?) := Lib.hid (fun x hx => Below.heap_setCell _ _ _ _ (by simpa using hx))
        have w5 : Below s0 w (w.setCell ⟨bc, 0, none⟩ (.slice (some ⟨b, off + 1, none⟩) (m + 1) (c + 1))) := (Below.refl _ w).setCell hs _
        generalize (w.setCell ⟨bc, 0, none⟩ (.slice (some ⟨b, off + 1, none⟩) (m + 1) (c + 1))) = W at *
        have hbcW : bc < W.heap.size := World.block_lt_of_cell? _ _ w1
        have BA := Lib.hid ((Below.refl W.heap.size W).alloc (Nat.le_refl _) (.cells #[.int .i64 y] 2))
        have HH : Hid (∀ j u, ((L.drop 2).map (Value.int .i64))[j]? = some u → (W.alloc (.cells #[.int .i64 y] 2)).cell? ((⟨b, off + 2, none⟩ : Addr).add j) = some u) := Lib.hid (fun j u hj => by
          have hjl : j < m := by
            have := (List.getElem?_eq_some_iff.1 hj).1
            rw [HOl.out] at this; omega
          rw [List.getElem?_map, List.getElem?_drop, List.getElem?_eq_getElem (by rw [HLl.out]; omega)] at hj
          have hc9 := Hce.out (2 + j) (by omega)
          have hbl : b < w.heap.size := World.block_lt_of_cell? _ _ hc9
          have e2 : (W.alloc (.cells #[.int .i64 y] 2)).heap[b]? = w.heap[b]? := (Below.heap_alloc W _ b (Nat.lt_of_lt_of_le hbl w5.size)).trans (w4.out b hbb)
          have ea : (⟨b, off + 2, none⟩ : Addr).add j = ⟨b, off + (2 + j), none⟩ := by
            unfold Addr.add
            split
            · subst j; simp <;> omega
            · simp <;> omega
          rw [ea, World.cell?_of_block (w := w) e2, hc9, ← hj]
          simp [List.getD, show 2 + j < L.length by rw [HLl.out]; omega])
        have wa0 : (W.alloc (.cells #[.int .i64 y] 2)).cell? ⟨bc, 0, none⟩ = some (.slice (some ⟨b, off + 1, none⟩) (m + 1) (c + 1)) := (World.cell?_alloc_past _ _ _ hbcW).trans w1
        have wa1 : (W.alloc (.cells #[.int .i64 y] 2)).drew.cell? ⟨bc, 0, none⟩ = some (.slice (some ⟨b, off + 1, none⟩) (m + 1) (c + 1)) := wa0
        have wa2 : (W.drew.alloc (.cells #[.int .i64 y] 2)).cell? ⟨bc, 0, none⟩ = some (.slice (some ⟨b, off + 1, none⟩) (m + 1) (c + 1)) := wa0
        have wa3 : (W.drew.alloc (.cells #[.int .i64 y] 2)).drew.cell? ⟨bc, 0, none⟩ = some (.slice (some ⟨b, off + 1, none⟩) (m + 1) (c + 1)) := wa0
        have wa4 : W.drew.cell? ⟨bc, 0, none⟩ = some (.slice (some ⟨b, off + 1, none⟩) (m + 1) (c + 1)) := w1
        have wa5 : W.drew.cell? ⟨b, off + 1, none⟩ = some (.int .i64 y) := w3
        go_region_law ((refine step_append_grows (by rfl) (.tmp 14) (.tmp 18) 22 (by rfl) 2 i0 (.int .i64 0) 1 8 (by kernel_rfl) hi hz0 hz1 hz2 rfl (by omega) (some ⟨b, off + 2, none⟩) m c ((L.drop 2).map (Value.int .i64)) (by rfl) (by intro h; cases h) HOl.out (fun b' h => by cases h; exact HH.out) ⟨W.heap.size, 0, none⟩ 1 1 [.int .i64 y] (by rfl) (by rfl) (cell_one_new W _ _) (one_int _) (by omega) (by unfold maxLen; omega) (by omega) ?_; intro v3 Z hown hgrow; obtain ⟨b3, c3, hv3, z3, z4, z5⟩ : ∃ b3 c3, v3 = .slice (some ⟨b3, 0, none⟩) (m + 1) c3 ∧ Hid (Below W.heap.size W Z) ∧ W.heap.size ≤ b3 ∧ Hid (∃ base, Z.ownsRow base 2 1 (.slice (some ⟨b3, 0, none⟩) (m + 1) c3) (m + 1) ((L.drop 2).map (Value.int .i64) ++ [.int .i64 y])) := (by obtain ⟨b3, c3, hv, g1, g2⟩ := hown.form (by omega); subst hv; exact ⟨b3, c3, rfl, Lib.hid (Below.grown (by first | exact BA.out | exact BA.out.drew | exact ⟨BA.out.os, BA.out.tape, BA.out.output, BA.out.size, BA.out.block⟩) hgrow (by simp) (fun _ h => by cases h)), Nat.le_trans (by simp) g1, Lib.hid ⟨_, hown⟩⟩); subst hv3; have z1 : Z.cell? ⟨bc, 0, none⟩ = some (.slice (some ⟨b, off + 1, none⟩) (m + 1) (c + 1)) := (z3.out.cell hbcW).trans w1; have z2 : Z.frozen? ⟨bc, 0, none⟩ = false := (z3.out.frozen hbcW).trans w2; clear hown hgrow))
        all_goals
          have hfin : Hid (Lf s0 D bc n (k + 1) (Z.setCell ⟨bc, 0, none⟩ (.slice (some ⟨b3, 0, none⟩) (m + 1) c3)) ∧ (Z.setCell ⟨bc, 0, none⟩ (.slice (some ⟨b3, 0, none⟩) (m + 1) c3)).heap[D]? = w.heap[D]? ∧ Below s0 w (Z.setCell ⟨bc, 0, none⟩ (.slice (some ⟨b3, 0, none⟩) (m + 1) c3))) := Lib.hid (by
            obtain ⟨base, ho⟩ := z5.out
            have hDW : D < W.heap.size := Nat.lt_of_lt_of_le hD w5.size
            have hlL := HLl.out
            refine ⟨⟨b3, 0, c3, ?_, ?_, ?_, by omega, by omega, by omega, ?_, fun i hi => ?_, fun i hi => ?_⟩, ?_, (w5.trans (z3.out.mono (by omega))).setCell hs _⟩
            · rw [hl1]; exact World.cell?_setCell_same _ _ _ z1
            · rw [World.frozen?_setCell]; exact z2
            · rw [hl1]; exact own_cap ho
            · exact Nat.lt_of_lt_of_le hDW (by have := z3.out.size; simpa [World.setCell] using this)
            · rw [World.cell?_setCell_far _ _ _ _ (by simp; omega), HSk.out, HY.out i (by omega), Nat.zero_add, ho.cellAt i (by omega)]
              split
              · rw [List.getElem?_append_left (by simp; omega), List.getElem?_map, List.getElem?_drop, List.getElem?_eq_getElem (by omega)]
                simp [List.getD, show i + 2 < L.length by omega, Nat.add_comm]
              · rw [List.getElem?_append_right (by simp; omega)]
                simp [show i - (L.length - 2) = 0 by omega]
            · rw [World.cell?_setCell_far _ _ _ _ (by simp; omega), World.frozen?_setCell, Nat.zero_add]
              refine ⟨?_, ho.frozenAt i⟩
              rcases ho.2 with ⟨h, _⟩ | ⟨g', cap', cur, hv, -, hg, -, -, hsz, -⟩
              · cases h
              · cases hv
                simp [World.cell?, hg]
                omega
            · exact (Below.heap_setCell _ _ _ _ (by simpa using Ne.symm hd)).trans ((z3.out.block D hDW).trans (w4.out D (Ne.symm hd))))
          clear z3 z5 w4 HH BA
          go_wp2
          go_ret
          exact ⟨rfl, hfin.out.1, hfin.out.2.1, hfin.out.2.2⟩
end Go.Proofs.Ytkhjeijcpldojaa
