/- The library's iterator over the parts of a list: its contract. -/
import Derived.Test.YtodmaomngpnboaaLk
import Derived.RangeFuncNested
import Derived.RangeFuncBound
import Derived.RangeFuncCalls
import Derived.RangeFuncLeaves
import Derived.RangeFuncBox
import Derived.Shelf.Abstract
import Derived.RegionIn
import Derived.Lib.MinMax
import Derived.WalkKit
import Derived.OwnWalkIn
import Derived.TacticsInMore
import Derived.LoopNIn
import Derived.LoopIn
import Derived.Maps.AppendAt
set_option linter.unusedVariables false
namespace Go.Proofs.Ytodmaomngpnboaa
open Go.RowKit Go.Shelf
attribute [local go_sem] Oper.semAt_some

/-- the i-th part of k cells -/
def chunkV (b off k i : Nat) : Value := .slice (some ⟨b, off + i * k, none⟩) k k
theorem chunk_made (v : Value) (p : Option Addr) (len cap k : Nat) (w : World) (hk : 1 ≤ k) (hk2 : k ≤ 1000) (hv : v = .slice p len cap) :
    Calls Try.prog 126 #[v, .int .i64 (k : Int)] w fun e w' => e = .returned (.func (.func 168) #[] #[.pointer (some ⟨w.heap.size, 0, none⟩), .pointer (some ⟨w.heap.size + 1, 0, none⟩)]) ∧ w' = (w.alloc (.cells #[v] 22)).alloc (.cells #[.int .i64 (k : Int)] 3) := by
  subst hv
  have d : decide ((k : Int) < 1) = false := decide_eq_false (by omega)
  go_enter Try.func126, Try.ntmps126
  go_wp2
  go_ret
  exact ⟨rfl, rfl⟩
set_option maxRecDepth 100000 in
set_option maxHeartbeats 2000000 in
theorem chunk1_in (F : Fence) (n : Nat) (h7 : F.fn 168) (hro : F.round = none) (hn : 1 ≤ n) (l B1 B2 n₀ b off L cap k cnt : Nat) (hk : 1 ≤ k) (hk2 : k ≤ 1000) (hcn : L ≤ 1000000) (hL : Hid (L = cnt * k)) (hcap : L ≤ cap) (h1 : B1 < n₀) (h2 : B2 < n₀) (J Jx : List Nat → World → Prop)
    (hJ : Hid (∀ s W W' , J s W → Below W.heap.size W W' → J s W'))
    (hY : ∀ pre x W, J pre W → pre.length < cnt → x < cnt → YieldAt F (n - 1) Try.prog l #[chunkV b off k x] W fun e W' =>
      (e = .returned (.bool true) ∧ J (pre ++ [x]) W' ∧ Below n₀ W W') ∨ (e = .returned (.bool false) ∧ Jx (pre ++ [x]) W'))
    (W : World) (c1 : W.cell? ⟨B1, 0, none⟩ = some (.slice (some ⟨b, off, none⟩) L cap)) (c2 : W.cell? ⟨B2, 0, none⟩ = some (.int .i64 (k : Int))) (h0 : J [] W) :
    CallsIn F n Try.prog 168 #[.func (.yield l) #[] #[], .pointer (some ⟨B1, 0, none⟩), .pointer (some ⟨B2, 0, none⟩)] W fun e W' => (∃ v, e = .returned v) ∧
      ((∃ ys, ys = List.range cnt ∧ J ys W') ∨ (∃ pre, (∃ m, m ≤ cnt ∧ pre = List.range m) ∧ Jx pre W')) := by
  have C1 := Lib.hid c1
  have C2 := Lib.hid c2
  have HY := Lib.hid hY
  clear hY
  refine callsIn_of_wp Try.func168 rfl h7 ?_ hro
  simp only [Try.ntmps168, List.size_toArray, List.length_cons, List.length_nil, Nat.reduceAdd, Nat.reduceSub, Array.replicate_succ, Array.replicate_zero, List.push_toArray, List.append_toArray, List.nil_append, List.cons_append]
  gi_wp2
  clear c1 c2
  gi_loopw [4] (fun i wr => ∃ j m : Nat, j ≤ cnt ∧ i = .int .i64 (m : Int) ∧ Hid (m = j * k) ∧ J (List.range j) wr ∧ Below n₀ W wr)
    (fun i _ => L - (intOf i).toNat)
  case atStart => exact ⟨0, 0, Nat.zero_le _, rfl, Lib.hid (by simp), h0, Below.refl _ _⟩
  case round =>
    obtain ⟨j, m, hj, rfl, hm, hJs, hnx⟩ := hrel
    have c1 := (hnx.cell (p := ⟨B1, 0, none⟩) h1).trans C1.out
    have c2 := (hnx.cell (p := ⟨B2, 0, none⟩) h2).trans C2.out
    have HJs := Lib.hid hJs
    have Hnx := Lib.hid hnx
    clear hJs hnx
    by_cases hlt : j < cnt
    · have hmk : m + k ≤ L := by
        rw [hm.out, hL.out, ← Nat.succ_mul]
        exact Nat.mul_le_mul_right k hlt
      have d1 : decide (m < L) = true := decide_eq_true (by omega)
      have hmin : min (k : Int) ((L - m : Nat) : Int) = (k : Int) := by omega
      have hmin2 : min (k : Int) ((L : Int) - (m : Int)) = (k : Int) := by omega
      have hcm : (cap = m) = False := eq_false (by omega)
      have hcm2 : m ≤ L := by omega
      have hnd : Below n₀ wr wr.drew := (Below.refl _ wr).drew
      obtain ⟨fn, tmps, assign, body, hy, hR⟩ := HY.out _ j wr.drew (hJ.out _ _ _ HJs.out ((Below.refl _ wr).drew)) (by rw [List.length_range]; exact hlt) hlt
      have hc' : chunkV b off k j = .slice (some ⟨b, off + m, none⟩) k k := by unfold chunkV; rw [← hm.out]
      rw [hc'] at hy
      have c1' : wr.drew.cell? ⟨B1, 0, none⟩ = _ := c1
      have HR := Lib.hid hR
      clear hR hc'
      gi_wp2
      gi_region
      all_goals
        gi_wp2
        refine HR.out.mono ?_
        rintro e W3 (⟨rfl, hJ3, hk3⟩ | ⟨rfl, hJx3⟩)
        · have c4 := (hk3.cell (p := ⟨B2, 0, none⟩) h2).trans c2
          have HJ3 := Lib.hid hJ3
          have Hk3 := Lib.hid hk3
          clear hJ3 hk3
          gi_wp2
          go_roundw
          case rel => exact ⟨j + 1, m + k, by omega, by go_num, Lib.hid (by rw [hm.out, Nat.succ_mul]), by rw [List.range_succ]; exact HJ3.out, Hnx.out.trans (hnd.trans Hk3.out)⟩
          case measure => simp [intOf]; omega
        · have HJx3 := Lib.hid hJx3
          clear hJx3
          gi_wp2
          refine bodyPost_ret (results_none rfl _ _ _) rfl ?_
          exact ⟨⟨_, rfl⟩, .inr ⟨_, ⟨j + 1, by omega, by rw [List.range_succ]⟩, HJx3.out⟩⟩
    · obtain rfl : cnt = j := by omega
      obtain rfl : L = m := hL.out.trans hm.out.symm
      gi_wp2
      go_end0
      exact ⟨⟨_, rfl⟩, .inl ⟨_, rfl, HJs.out⟩⟩
end Go.Proofs.Ytodmaomngpnboaa
