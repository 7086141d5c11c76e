/- Slices whose elements are one cell each, and the copies, comparisons and marks of the exact laws, at int64 and at bool. -/
import Derived.Test.YtodmaomngpnboaaCk
import Derived.Test.YtodmaomngpnboaaChecked
import Derived.WalkKit
import Derived.ProofKit
import Derived.Lib.Hide
set_option linter.unusedVariables false
namespace Go.Proofs.Ytodmaomngpnboaa
open Go.RowKit


set_option maxHeartbeats 400000 in
theorem toI_any (fs : List Int) (v : Value) (w : World) (hn : fs.length ≤ 1048576) (h : Sl (Value.int .i64) 0 w v fs) :
    Calls Try.prog 16 #[v] w fun e w' => ∃ v', e = .returned v' ∧ Sw (Value.int .i64) 0 w' v' fs w.heap.size w'.heap.size ∧ Below w.heap.size w w' := by
  obtain ⟨p, cap, rfl, hf⟩ := h
  obtain ⟨i0, hi, hz0, hz1, hz2⟩ := info_parts (show (Try.prog.info? 2).map (fun i => (i.zero, i.size, i.bytes)) = some (some (Value.int .i64 0), 1, 8) by kernel_rfl)
  have Hf := Lib.hid hf
  clear hf
  generalize hlen : fs.length = n at *
  have Hlen := Lib.hid hlen
  clear hlen
  go_enter Try.func16, Try.ntmps16
  go_wp2_with (at_make; refine wpList_make_full _ rfl _ _ 22 rfl w.heap.size 2 i0 (Value.int .i64 0) 1 (by kernel_rfl) hi hz0 hz1 .i64 .i64 n n n rfl rfl rfl rfl (by rw [hz2]; omega) (by unfold maxLen; omega) (Nat.le_refl _) ?_; intro w1 hown hgrow)
  have hbel : Below w.heap.size w w1 := (Below.refl _ w).grown hgrow (Nat.le_refl _) (by simp)
  have Hown := Lib.hid hown
  clear hown
  go_loopw [4] (fun i wr => ∃ k : Nat, k ≤ n ∧ i = .int .i64 k ∧ wr.ownsRow w.heap.size 2 1 (.slice (some ⟨w.heap.size, 0, none⟩) n n) n (copied (Value.int .i64) (Value.int .i64 0) fs k) ∧ Below w.heap.size w wr) (fun i _ => n - (intOf i).toNat)
  case atStart =>
    refine ⟨0, Nat.zero_le _, rfl, ?_, hbel⟩
    have h0 := Hown.out
    have e : (madeCells (Value.int .i64 0).cells (n * 1)).toList = copied (Value.int .i64) (Value.int .i64 0) fs 0 := by
      unfold copied
      rw [Hlen.out, Nat.mul_one, Nat.sub_zero, List.take_zero, List.map_nil, List.nil_append]
      exact made1 _ n
    rw [e] at h0
    exact h0
  case round =>
    obtain ⟨k, hk, rfl, hown, hb⟩ := hrel
    by_cases hlt : k < n
    · obtain ⟨hcap, b, off, rfl, hbs, hc⟩ := Hf.out (by omega)
      have c1 : wr.cell? ⟨b, off + k, none⟩ = some (Value.int .i64 (fs.getD k 0)) := by rw [hb.cell hbs]; exact hc k hlt
      have c2 : wr.cell? ⟨w.heap.size, k, none⟩ = some (Value.int .i64 0) := by rw [hown.cellAt k (by omega)]; exact copied_at _ _ _ _ (by rw [Hlen.out]; exact hlt)
      have c3 := hown.frozenAt k
      obtain ⟨hs1, _⟩ := hown.stored k (Value.int .i64 (fs.getD k 0))
      rw [show Value.int .i64 (fs.getD k 0) = ((Value.int .i64)) (fs.getD k 0) from rfl, copied_set _ _ _ _ _ (by rw [Hlen.out]; exact hlt)] at hs1
      have Hs1 := Lib.hid hs1
      have Hb := Lib.hid hb
      have hsz := hb.size
      clear hs1 hown hc hb
      go_wp2
      go_roundw
      case rel => exact ⟨k + 1, by omega, by go_num, Hs1.out, Hb.out.setCell (Nat.le_refl _) _⟩
      case measure => simp [intOf]; omega
    · obtain rfl : k = n := by omega
      have Hown2 := Lib.hid hown
      have Hb := Lib.hid hb
      clear hown hb
      go_wp2
      go_ret
      refine ⟨_, rfl, ⟨_, k, by rw [Hlen.out]; rfl, fun h0 => ⟨by rw [Hlen.out]; exact Nat.le_refl _, w.heap.size, 0, rfl, Nat.le_refl _, (Hown2.out.lt _ rfl).2, Nat.le_refl _, fun i hi2 => ⟨?_, ?_⟩⟩⟩, Hb.out⟩
      · rw [Nat.zero_add, Hown2.out.cellAt i (by rw [Hlen.out] at hi2; omega)]
        have := copied_done (Value.int .i64) (Value.int .i64 0) fs 0 i hi2
        rw [Hlen.out] at this
        exact this
      · rw [Nat.zero_add]; exact Hown2.out.frozenAt i

set_option maxHeartbeats 400000 in
theorem eqI_any (fs : List Int) (v u : Value) (w : World) (hn : fs.length ≤ 1048576) (h : Sl (Value.int .i64) 0 w v fs) (g : Sl (Value.int .i64) 0 w u fs) :
    Calls Try.prog 18 #[v, u] w fun e w' => e = .returned (.bool true) ∧ Only 0 0 w w' := by
  obtain ⟨p, cap, rfl, hf⟩ := h
  obtain ⟨q, cap', rfl, hg⟩ := g
  have Hf := Lib.hid hf
  have Hg := Lib.hid hg
  clear hf hg
  generalize fs.length = n at *
  have hne : ((n : Int) != (n : Int)) = false := by simp
  go_enter Try.func18, Try.ntmps18
  go_wp2
  go_loopw [5] (fun i wr => ∃ k q : Nat, k ≤ n ∧ i = .int .i64 k ∧ wr = w.drewN q) (fun i _ => n - (intOf i).toNat)
  case atStart => exact ⟨0, 0, Nat.zero_le _, rfl, rfl⟩
  case round =>
    obtain ⟨k, dn, hk, rfl, rfl⟩ := hrel
    by_cases hlt : k < n
    · obtain ⟨hcap, b, off, rfl, hbs, hc⟩ := Hf.out (by omega)
      obtain ⟨hcap', b', off', rfl, hbs', hc'⟩ := Hg.out (by omega)
      have c1 := hc k hlt
      have c2 := hc' k hlt
      clear hc hc'
      go_wp2
      go_region
      all_goals (go_wp2; go_roundw)
      all_goals first | exact ⟨k + 1, _, by omega, by go_num, rfl⟩ | (simp [intOf]; omega)
    · obtain rfl : k = n := by omega
      go_wp2
      go_ret
      exact ⟨rfl, Only.ofDraws _ _⟩

set_option maxHeartbeats 400000 in
theorem markI_any (fs : List Int) (v : Value) (lo hi : Nat) (w : World) (a : Nat) (hn : fs.length ≤ 1048576) (ha : a ≤ 1000000000) (h : Sw (Value.int .i64) 0 w v fs lo hi) :
    Calls Try.prog 19 #[v, .int .i64 (a : Int)] w fun e w' => e = .returned (.int .i64 ((a + fs.length : Nat) : Int)) ∧ Sw (Value.int .i64) 0 w' v (marksI a fs.length) lo hi ∧ Only lo hi w w' := by
  have Hs := Lib.hid h
  obtain ⟨p, cap, rfl, hf⟩ := h
  clear hf
  generalize hlen : fs.length = n at *
  have Hlen := Lib.hid hlen
  clear hlen
  go_enter Try.func19, Try.ntmps19
  go_wp2
  go_loopw [1, 5] (fun q i wr => ∃ k : Nat, k ≤ n ∧ i = .int .i64 k ∧ q = .int .i64 ((a + k : Nat) : Int) ∧ Sw (Value.int .i64) 0 wr (.slice p n cap) (mixed (marksI a k) fs) lo hi ∧ Only lo hi w wr) (fun _ i _ => n - (intOf i).toNat)
  case atStart => exact ⟨0, Nat.zero_le _, rfl, rfl, by rw [show mixed (marksI a 0) fs = fs from by simp [mixed, marksI]]; exact Hs.out, Only.refl _ _ _⟩
  case round =>
    obtain ⟨k, hk, rfl, rfl, hs, ho⟩ := hrel
    have Ho := Lib.hid ho
    clear ho
    by_cases hlt : k < n
    · have hml : k < (mixed (marksI a k) fs).length := by rw [mixed_len _ _ (by rw [marksI_len, Hlen.out]; exact hk), Hlen.out]; exact hlt
      obtain ⟨b, off, rfl, hx⟩ := hs.open' k hml
      obtain ⟨g1, g2, g3, g4⟩ := hx
      have c1 : wr.cell? ⟨b, off + k, none⟩ = some (Value.int .i64 (fs.getD k 0)) := by rw [g3, mixed_get _ _ 0 k (marksI_len a k)]
      have c2 := g4
      have hst := hs.store k hml (((a + k : Nat) : Int))
      rw [mixed_set _ _ _ k (marksI_len a k) (by rw [Hlen.out]; exact hlt), ← marksI_succ] at hst
      have Hst := Lib.hid hst
      have hblt : b < wr.heap.size := g2
      have Hg1 := Lib.hid g1
      clear hst g1 g3 g4 hs hml
      go_wp2
      go_roundw
      case rel => exact ⟨k + 1, by omega, by go_num, by go_num, Hst.out, Ho.out.step' _ _ Hg1.out.1 Hg1.out.2.1⟩
      case measure => simp [intOf]; omega
    · obtain rfl : k = n := by omega
      have Hs2 := Lib.hid hs
      clear hs
      go_wp2
      go_ret
      refine ⟨rfl, ?_, Ho.out⟩
      have := Hs2.out
      rw [mixed_done _ _ (by rw [marksI_len, Hlen.out])] at this
      exact this

set_option maxHeartbeats 400000 in
theorem heldI_any (n : Nat) (v : Value) (lo hi : Nat) (w : World) (a : Nat) (hn : n ≤ 1048576) (ha : a ≤ 1000000000) (h : Sw (Value.int .i64) 0 w v (marksI a n) lo hi) :
    Calls Try.prog 20 #[v, .int .i64 (a : Int)] w fun e w' => e = .returned (.int .i64 ((a + n : Nat) : Int)) ∧ Only 0 0 w w' := by
  have Hs := Lib.hid h
  obtain ⟨p, cap, rfl, hf⟩ := h
  clear hf
  rw [marksI_len] at Hs ⊢
  go_enter Try.func20, Try.ntmps20
  go_wp2
  go_loopw [1, 5] (fun q i wr => ∃ k z : Nat, k ≤ n ∧ i = .int .i64 k ∧ q = .int .i64 ((a + k : Nat) : Int) ∧ wr = w.drewN z) (fun _ i _ => n - (intOf i).toNat)
  case atStart => exact ⟨0, 0, Nat.zero_le _, rfl, rfl, rfl⟩
  case round =>
    obtain ⟨k, dn, hk, rfl, rfl, rfl⟩ := hrel
    by_cases hlt : k < n
    · obtain ⟨b, off, rfl, g1, g2, g3, g4⟩ := Hs.out.open' k (by rw [marksI_len]; exact hlt)
      have c1 : w.cell? ⟨b, off + k, none⟩ = some (.int .i64 ((a + k : Nat) : Int)) := by rw [g3, marksI_get a n 0 k hlt]
      clear g3 g4
      go_wp2
      go_roundw
      case rel => exact ⟨k + 1, _, by omega, by go_num, by go_num, rfl⟩
      case measure => simp [intOf]; omega
    · obtain rfl : k = n := by omega
      go_wp2
      go_ret
      exact ⟨rfl, Only.ofDraws _ _⟩





end Go.Proofs.Ytodmaomngpnboaa
