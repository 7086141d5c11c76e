/- Contracts: decks of ranks, the program's function that keeps the cards that are left. -/
import Derived.Test.YtcoehcoohppbjaaUe
set_option linter.unusedVariables false
namespace Go.Proofs.Ytcoehcoohppbjaa
open Go.RowKit
/-- what the function keeps: the cards that are left behind c6, the places behind c8, and never in block D -/
def Lr (D c6 c8 b0 bI n r cap cI k : Nat) (w : World) : Prop :=
  w.cell? ⟨c6, 0, none⟩ = some (.slice (some ⟨b0, 0, none⟩) (n - k) cap) ∧ w.frozen? ⟨c6, 0, none⟩ = false ∧ w.cell? ⟨c8, 0, none⟩ = some (.slice (some ⟨bI, 0, none⟩) n cI) ∧ (∀ j, j < n → w.cell? ⟨bI, j, none⟩ = some (.int .i64 ((idxR n r j : Nat) : Int))) ∧ Sw (Value.int .i64) 0 w (.slice (some ⟨b0, 0, none⟩) (n - k) cap) (leftR n r k) b0 (b0 + 1) ∧ D < w.heap.size
theorem Sw.keepD {w w' : World} {v : Value} {l : List Int} {b D : Nat} (h : Sw (Value.int .i64) 0 w v l b (b + 1)) (hs : w.heap.size ≤ w'.heap.size) (hk : ∀ x, x ≠ D → x < w.heap.size → w'.heap[x]? = w.heap[x]?) (hb : b ≠ D) : Sw (Value.int .i64) 0 w' v l b (b + 1) := by
  obtain ⟨p, cap, rfl, h⟩ := h
  refine ⟨p, cap, rfl, fun h0 => ?_⟩
  obtain ⟨hcap, b', off, rfl, g1, g2, g3, hc⟩ := h h0
  obtain rfl : b' = b := by omega
  have e := hk b' hb (by omega)
  exact ⟨hcap, b', off, rfl, g1, g2, by omega, fun i hi => ⟨(World.cell?_of_block (a := ⟨b', off + i, none⟩) e).trans (hc i hi).1, (World.frozen?_of_block (a := ⟨b', off + i, none⟩) e).trans (hc i hi).2⟩⟩
theorem Lr.keep {D c6 c8 b0 bI n r cap cI k : Nat} {w w' : World} (h : Lr D c6 c8 b0 bI n r cap cI k w) (hs : w.heap.size ≤ w'.heap.size) (hk : ∀ x, x ≠ D → x < w.heap.size → w'.heap[x]? = w.heap[x]?) (h6 : c6 ≠ D) (h8 : c8 ≠ D) (h0 : b0 ≠ D) (hI : bI ≠ D) : Lr D c6 c8 b0 bI n r cap cI k w' := by
  obtain ⟨h1, h2, h3, h4, h5, h9⟩ := h
  have e1 := hk c6 h6 (World.block_lt_of_cell? _ _ h1)
  have e2 := hk c8 h8 (World.block_lt_of_cell? _ _ h3)
  exact ⟨(World.cell?_of_block (w := w) e1).trans h1, (World.frozen?_of_block (w := w) e1).trans h2, (World.cell?_of_block (w := w) e2).trans h3, fun j hj => (World.cell?_of_block (w := w) (hk bI hI (World.block_lt_of_cell? _ _ (h4 j hj)))).trans (h4 j hj), h5.keepD hs hk h0, by omega⟩
set_option maxHeartbeats 1000000 in
theorem clo_rk (s0 D c6 c8 b0 bI n r cap cI k : Nat) (w : World) (hk : k < n) (hn : n ≤ 20) (hd : c6 ≠ D ∧ b0 ≠ D ∧ c6 ≠ c8 ∧ c6 ≠ b0 ∧ c6 ≠ bI ∧ b0 ≠ c8 ∧ b0 ≠ bI) (hs : s0 ≤ c6 ∧ s0 ≤ b0) (hcI : n ≤ cI) (hcap : cap ≤ 9223372036854775807) (h : Lr D c6 c8 b0 bI n r cap cI k w) :
    Calls Try.prog 109 #[.int .i64 (k : Int), .pointer (some ⟨c8, 0, none⟩), .pointer (some ⟨c6, 0, none⟩)] w fun e w' => e = .returned (.int .i64 (rkG n r k)) ∧ Lr D c6 c8 b0 bI n r cap cI (k + 1) w' ∧ w'.heap[D]? = w.heap[D]? ∧ Below s0 w w' := by
  obtain ⟨c1, f1, c2, hI, hS, hD⟩ := h
  have c3 := hI k hk
  have hq := idxR_lt n r k hk
  have hl := leftR_len n r k (by omega)
  have HL : Hid (leftR n r (k + 1) = (leftR n r k).eraseIdx (idxR n r k)) := Lib.hid rfl
  have HG : Hid (rkG n r k = (leftR n r k).getD (idxR n r k) 0) := Lib.hid rfl
  have HI := Lib.hid hI
  clear hI
  generalize rkG n r k = G at *
  generalize idxR n r k = q at *
  have Hdel := Lib.hid (delete_any (leftR n r k) b0 0 cap q b0 (b0 + 1) w (by rw [hl]; exact hS) (by omega) hcap)
  rw [hl] at Hdel
  obtain ⟨b', off', e, hb1, hb2, c4, f4⟩ := hS.open' q (by omega)
  cases e
  rw [Nat.zero_add, ← HG.out] at c4
  have hcl : n - k ≤ cap := by
    obtain ⟨p', cap', e, hf⟩ := hS
    injection e with _ _ ec
    have := (hf (by omega)).1
    omega
  have HS := Lib.hid hS
  have e3 : n - (k + 1) = n - k - 1 := by omega
  have hFin : Hid (∀ w', Sw (Value.int .i64) 0 w' (.slice (some ⟨b0, 0, none⟩) (n - k - 1) cap) ((leftR n r k).eraseIdx q) b0 (b0 + 1) → Only b0 (b0 + 1) w w' → (w'.cell? ⟨c6, 0, none⟩ = some (.slice (some ⟨b0, 0, none⟩) (n - k) cap) ∧ w'.frozen? ⟨c6, 0, none⟩ = false) ∧ Lr D c6 c8 b0 bI n r cap cI (k + 1) (w'.setCell ⟨c6, 0, none⟩ (.slice (some ⟨b0, 0, none⟩) (n - k - 1) cap)) ∧ (w'.setCell ⟨c6, 0, none⟩ (.slice (some ⟨b0, 0, none⟩) (n - k - 1) cap)).heap[D]? = w.heap[D]? ∧ Below s0 w (w'.setCell ⟨c6, 0, none⟩ (.slice (some ⟨b0, 0, none⟩) (n - k - 1) cap))) := Lib.hid (fun w' hs' ho => by
    obtain ⟨d1, d2, d3, d4, d5, d6, d7⟩ := hd
    have t6 : w'.cell? ⟨c6, 0, none⟩ = some (.slice (some ⟨b0, 0, none⟩) (n - k) cap) := (World.cell?_of_block (w := w) (ho.block c6 (by omega))).trans c1
    have g6 : w'.frozen? ⟨c6, 0, none⟩ = false := (World.frozen?_of_block (w := w) (ho.block c6 (by omega))).trans f1
    refine ⟨⟨t6, g6⟩, ⟨?_, ?_, ?_, fun j hj => ?_, ?_, ?_⟩, ?_, (Below.only (Below.refl s0 w) ho hs.2).setCell hs.1 _⟩
    · rw [e3]; exact World.cell?_setCell_same _ _ _ t6
    · rw [World.frozen?_setCell]; exact g6
    · rw [World.cell?_setCell_far _ _ _ _ (by simp; omega)]
      exact (World.cell?_of_block (w := w) (ho.block c8 (by omega))).trans c2
    · rw [World.cell?_setCell_far _ _ _ _ (by simp; omega)]
      exact (World.cell?_of_block (w := w) (ho.block bI (by omega))).trans (HI.out j hj)
    · rw [e3, HL.out]
      exact hs'.apart ((Only.refl c6 (c6 + 1) w').step' ⟨c6, 0, none⟩ _ (Nat.le_refl _) (Nat.lt_succ_self _)) (by omega)
    · simp only [World.setCell, Array.size_modify]
      rw [ho.size]; exact hD
    · exact (Below.heap_setCell _ _ _ _ (by simp; omega)).trans (ho.block D (by omega)))
  clear hS HS HI HL hd hs hl
  generalize leftR n r k = L at *
  generalize n - k = m at *
  go_enter Try.func109, Try.ntmps109
  go_wp2_with (go_at_call 110; refine (Hdel.out).mono ?_; rintro e w' ⟨rfl, hs', ho⟩; obtain ⟨⟨c5, f5⟩, hL, hDD, hB⟩ := hFin.out w' hs' ho; have HLL := Lib.hid hL; have HDD := Lib.hid hDD; have HB := Lib.hid hB; clear hL hDD hB hs' ho)
  go_ret
  exact ⟨rfl, HLL.out, HDD.out, HB.out⟩
end Go.Proofs.Ytcoehcoohppbjaa
