/- Contracts: a deck by a function that keeps a state of its own. -/
import Derived.Test.YtcoehcoohppbjaaUa
set_option linter.unusedVariables false
namespace Go.Proofs.Ytcoehcoohppbjaa
open Go.RowKit

set_option maxHeartbeats 1000000 in
theorem deckBy_st (n K s0 : Nat) (caps : Array Value) (g : Nat → Int) (I : Nat → World → Prop) (w : World) (hn : n ≤ 1048576) (hs0 : s0 ≤ w.heap.size)
    (hent : ∀ args w, (callFunc K args).run Try.prog w = .ok (.enter K args) w)
    (h0 : ∀ w1, Below w.heap.size w w1 → w.heap.size < w1.heap.size → I 0 w1)
    (hst : ∀ k j w' v, I k w' → I k (w'.setCell ⟨w.heap.size, j, none⟩ v))
    (hdr : ∀ k w', I k w' → I k w'.drew)
    (hc : ∀ k w', k < n → I k w' → w.heap.size < w'.heap.size → Calls Try.prog K (#[.int .i64 (k : Int)] ++ caps) w' fun e w'' => e = .returned (.int .i64 (g k)) ∧ I (k + 1) w'' ∧ w''.heap[w.heap.size]? = w'.heap[w.heap.size]? ∧ Below s0 w' w'') :
    Calls Try.prog 108 #[.int .i64 (n : Int), .func (.func K) #[] caps] w fun e w' => ∃ r, e = .returned r ∧ w'.ownsRow w.heap.size 2 1 r n ((tab n g).map (Value.int .i64)) ∧ I n w' ∧ Below s0 w w' := by
  obtain ⟨i0, hi, hz0, hz1, hz2⟩ := info_parts (show (Try.prog.info? 2).map (fun i => (i.zero, i.size, i.bytes)) = some (some (.int .i64 0), 1, 8) by kernel_rfl)
  have Hc := Lib.hid hc
  have H0 := Lib.hid h0
  have Hst := Lib.hid hst
  have Hdr := Lib.hid hdr
  clear hc h0 hst hdr
  go_enter Try.func108, Try.ntmps108
  go_wp2_with (at_make; refine wpList_make_full _ rfl _ _ 22 rfl w.heap.size 2 i0 (.int .i64 0) 1 (by kernel_rfl) hi hz0 hz1 .i64 .i64 n n n rfl rfl rfl rfl (by rw [hz2]; omega) (by unfold maxLen; omega) (Nat.le_refl _) ?_; intro w1 hown hgrow)
  have hbel : Below w.heap.size w w1 := (Below.refl _ w).grown hgrow (Nat.le_refl _) (by simp)
  have Hown := Lib.hid hown
  have Hbel := Lib.hid hbel
  clear hown hbel hgrow
  go_loopw [10] (fun i wr => ∃ k : Nat, k ≤ n ∧ i = .int .i64 k ∧ wr.ownsRow w.heap.size 2 1 (.slice (some ⟨w.heap.size, 0, none⟩) n n) n ((filled n g k).map (Value.int .i64)) ∧ Below s0 w wr ∧ I k wr) (fun i _ => n - (intOf i).toNat)
  case atStart =>
    refine ⟨0, Nat.zero_le _, rfl, ?_, Hbel.out.mono hs0, H0.out w1 Hbel.out (Hown.out.lt _ rfl).2⟩
    have h0 := Hown.out
    have e : (madeCells (Value.int .i64 0).cells (n * 1)).toList = (filled n g 0).map (Value.int .i64) := by
      rw [filled_zero, Nat.mul_one, List.map_replicate]
      exact made1 _ n
    rw [e] at h0
    exact h0
  case round =>
    obtain ⟨k, hk, rfl, hown, hb, hI⟩ := hrel
    have Hown := Lib.hid hown
    have Hb := Lib.hid hb
    have HI := Lib.hid hI
    have hsz := hb.size
    clear hown hb hI
    by_cases hlt : k < n
    · have hsd : w.heap.size < wr.heap.size := (Hown.out.lt _ rfl).2
      have Hcall := Lib.hid (Hc.out k wr hlt HI.out hsd)
      have Hk := Lib.hid (fun (w2 : World) (hD : w2.heap[w.heap.size]? = wr.heap[w.heap.size]?) => own_keep Hown.out hD)
      clear Hown HI
      go_wp2_with (refine (Hcall.out).mono ?_; rintro e w2 ⟨rfl, hI2, hD2, hB2⟩; have HO2 := Lib.hid (Hk.out w2 hD2); have HI2 := Lib.hid hI2; have HB2 := Lib.hid (Hb.out.trans hB2); have c2 : w2.cell? ⟨w.heap.size, k, none⟩ = some (.int .i64 0) := (by rw [HO2.out.cellAt k (by omega), List.getElem?_map, filled_at n g k hlt]; rfl); have c3 := HO2.out.frozenAt k; have hs1 := (HO2.out.stored k (.int .i64 (g k))).1; rw [← List.map_set, filled_set n g k hlt] at hs1; have Hs1 := Lib.hid hs1; clear hI2 hD2 hB2 hs1)
      go_roundw
      case rel => exact ⟨k + 1, by omega, by go_num, Hs1.out, HB2.out.setCell (by simpa using hs0) _, Hst.out _ _ _ _ HI2.out⟩
      case measure => simp [intOf]; omega
    · obtain rfl : k = n := by omega
      go_wp2
      go_ret
      have h0 := Hown.out
      rw [filled_done] at h0
      exact ⟨_, rfl, h0, HI.out, Hb.out⟩
end Go.Proofs.Ytcoehcoohppbjaa
