/- Lists of 32-bit numbers in the law: the copy. -/
import Derived.Test.YtcoehcoohppbjacKb
set_option linter.unusedVariables false
namespace Go.Proofs.Ytcoehcoohppbjac
open Go.RowKit Fl
set_option maxHeartbeats 400000 in
theorem toF_any (fs : List Nat) (v : Value) (w : World) (hn : fs.length ≤ 1048576) (h : Sl (Value.float .f32) 0 w v fs) :
    Calls Try.prog 7 #[v] w fun e w' => ∃ v', e = .returned v' ∧ Sw (Value.float .f32) 0 w' v' fs w.heap.size w'.heap.size ∧ Below w.heap.size w w' := by
  obtain ⟨p, cap, rfl, hf⟩ := h
  obtain ⟨i0, hi, hz0, hz1, hz2⟩ := info_parts (show (Try.prog.info? 48).map (fun i => (i.zero, i.size, i.bytes)) = some (some (Value.float .f32 0), 1, 4) by kernel_rfl)
  have Hf := Lib.hid hf
  clear hf
  generalize hlen : fs.length = n at *
  have Hlen := Lib.hid hlen
  clear hlen
  go_enter Try.func7, Try.ntmps7
  go_wp2_with (at_make; refine wpList_make_full _ rfl _ _ 22 rfl w.heap.size 48 i0 (Value.float .f32 0) 1 (by kernel_rfl) hi hz0 hz1 .i64 .i64 n n n rfl rfl rfl rfl (by rw [hz2]; omega) (by unfold maxLen; omega) (Nat.le_refl _) ?_; intro w1 hown hgrow)
  have hbel : Below w.heap.size w w1 := (Below.refl _ w).grown hgrow (Nat.le_refl _) (by simp)
  have Hown := Lib.hid hown
  clear hown
  go_loopw [4] (fun i wr => ∃ k : Nat, k ≤ n ∧ i = .int .i64 k ∧ wr.ownsRow w.heap.size 48 1 (.slice (some ⟨w.heap.size, 0, none⟩) n n) n (copied (Value.float .f32) (Value.float .f32 0) fs k) ∧ Below w.heap.size w wr) (fun i _ => n - (intOf i).toNat)
  case atStart =>
    refine ⟨0, Nat.zero_le _, rfl, ?_, hbel⟩
    have h0 := Hown.out
    have e : (madeCells (Value.float .f32 0).cells (n * 1)).toList = copied (Value.float .f32) (Value.float .f32 0) fs 0 := by
      unfold copied
      rw [Hlen.out, Nat.mul_one, Nat.sub_zero, List.take_zero, List.map_nil, List.nil_append]
      exact made1 _ n
    rw [e] at h0
    exact h0
  case round =>
    obtain ⟨k, hk, rfl, hown, hb⟩ := hrel
    by_cases hlt : k < n
    · obtain ⟨hcap, b, off, rfl, hbs, hc⟩ := Hf.out (by omega)
      have c1 : wr.cell? ⟨b, off + k, none⟩ = some (Value.float .f32 (fs.getD k 0)) := by rw [hb.cell hbs]; exact hc k hlt
      have c2 : wr.cell? ⟨w.heap.size, k, none⟩ = some (Value.float .f32 0) := by rw [hown.cellAt k (by omega)]; exact copied_at _ _ _ _ (by rw [Hlen.out]; exact hlt)
      have c3 := hown.frozenAt k
      obtain ⟨hs1, _⟩ := hown.stored k (Value.float .f32 (fs.getD k 0))
      rw [show Value.float .f32 (fs.getD k 0) = ((Value.float .f32)) (fs.getD k 0) from rfl, copied_set _ _ _ _ _ (by rw [Hlen.out]; exact hlt)] at hs1
      have Hs1 := Lib.hid hs1
      have Hb := Lib.hid hb
      have hsz := hb.size
      clear hs1 hown hc hb
      go_wp2
      go_roundw
      case rel => exact ⟨k + 1, by omega, by go_num, Hs1.out, Hb.out.setCell (Nat.le_refl _) _⟩
      case measure => simp [intOf]; omega
    · obtain rfl : k = n := by omega
      have Hown2 := Lib.hid hown
      have Hb := Lib.hid hb
      clear hown hb
      go_wp2
      go_ret
      refine ⟨_, rfl, ⟨_, k, by rw [Hlen.out]; rfl, fun h0 => ⟨by rw [Hlen.out]; exact Nat.le_refl _, w.heap.size, 0, rfl, Nat.le_refl _, (Hown2.out.lt _ rfl).2, Nat.le_refl _, fun i hi2 => ⟨?_, ?_⟩⟩⟩, Hb.out⟩
      · rw [Nat.zero_add, Hown2.out.cellAt i (by rw [Hlen.out] at hi2; omega)]
        have := copied_done (Value.float .f32) (Value.float .f32 0) fs 0 i hi2
        rw [Hlen.out] at this
        exact this
      · rw [Nat.zero_add]; exact Hown2.out.frozenAt i
end Go.Proofs.Ytcoehcoohppbjac
