/- Contracts: how many rows a tally has; the greatest faces; SumCounts, the program. -/
import Derived.Test.YtodmaomngpnboaaMv
set_option linter.unusedVariables false
namespace Go.Proofs.Ytodmaomngpnboaa
open Go.RowKit Go.Maps

set_option maxRecDepth 100000 in
set_option maxHeartbeats 4000000 in
theorem all_any (bt n0 N : Nat) (f : Int → Int) (w : World) (ht : TV w bt n0 N f) (hn0 : n0 ≤ 1000) (hN : N ≤ 1000) (hf : ∀ s, s < N → 0 ≤ f (s : Int)) (hs : sumA (fun s => f (s : Int)) N ≤ 4611686018427387904) :
    Calls Try.prog 129 #[.map (some bt)] w fun e w' => e = .returned (.int .i64 (sumA (fun s => f (s : Int)) N)) ∧ Below w.heap.size w w' := by
  obtain ⟨D0, hown, hat0, hks⟩ := ht
  have hsz0 := size_le hown
  have Hf := Lib.hid hf
  have Hs := Lib.hid hs
  have Hat0 := Lib.hid hat0
  have Hks := Lib.hid (fun k hk => keys_in hks k hk)
  clear hat0 hks hf hs
  have hbl := hown.lt
  go_enter Try.func129, Try.ntmps129
  go_wp2_with (first
    | (at_range; refine wpList_range_own _ rfl _ 119 rfl 2 2 lawI Try.underlying119 _ bt n0 _ rfl hown ?_; intro w0 hrg0 hg0 hs0)
    | go_in)
  go_frame
  go_loopw [3, 8] (fun c _ wr => ∃ (left : Lit → Bool) (cnt : Nat), wr.ranges Try.prog 2 (plainElem (H := Unit) Try.prog 2) bt w.heap.size n0 D0 left cnt ∧ cnt ≤ 1000 ∧ (∀ kl, left kl = true → Maps.has D0 kl = true) ∧
      c = .int .i64 (sumD (fun s => f (s : Int)) (fun s => Maps.has D0 (.int .i64 (s : Int)) && !left (.int .i64 (s : Int))) N) ∧ Hid (Below w.heap.size w wr))
    (fun _ _ wr => wr.rangeLeft bt w.heap.size)
  case atStart =>
    refine ⟨_, _, hrg0, by omega, fun kl h => h, ?_, Lib.hid ((Below.refl _ w).grown hg0 (Nat.le_refl _) (fun j hj => by cases hj))⟩
    rw [sumD_none _ _ _ (fun s _ => by simp)]
  case round =>
    obtain ⟨left, cnt, hrg, hcn, hlh, rfl, hnx⟩ := hrel
    go_wp2_with (first
      | (at_next; refine wpList_next_ranges_ii _ rfl _ rfl 2 2 .i64 .i64 lawI Try.underlying2 Try.underlying2 bt w.heap.size n0 _ _ _ rfl hrg ?_ ?_)
      | go_in)
    · intro hc0 hl0
      have E : Hid (sumD (fun s => f (s : Int)) (fun s => Maps.has D0 (.int .i64 (s : Int)) && !left (.int .i64 (s : Int))) N = sumA (fun s => f (s : Int)) N) := Lib.hid (sumD_all _ _ _ fun s hs hd => by
        rw [hl0, Bool.not_false, Bool.and_true] at hd
        have h1 := Hat0.out (s : Int)
        rw [Maps.atKey_of_not_has hd] at h1
        injection h1 with h1
        injection h1 with _ h1
        exact h1.symm)
      go_wp2
      go_ret
      exact ⟨ret_int E.out, hnx.out⟩
    · intro x c w1 cnt1 hwx hwc hlx hat hrg1 hlt hg1 hs1 hen
      obtain ⟨x0, x1⟩ := Hks.out x (hlh _ hlx)
      obtain ⟨s, rfl⟩ : ∃ s : Nat, x = s := ⟨x.toNat, by omega⟩
      have hcf : c = f (s : Int) := by
        have h1 := Hat0.out (s : Int)
        rw [hat] at h1
        injection h1 with h1
        injection h1
      have hnx1 := Lib.hid (hnx.out.grown hg1 hnx.out.size (fun j hj => by cases hj; omega))
      have hone := sumD_one (fun s => f (s : Int)) (fun s => Maps.has D0 (.int .i64 (s : Int)) && !left (.int .i64 (s : Int))) (fun s' => Maps.has D0 (.int .i64 (s' : Int)) && !(left (.int .i64 (s' : Int)) && !(Lit.int .i64 (s' : Int)).sameKey (.int .i64 (s : Int)))) N s (by omega) (by rw [hlx]; simp) (by rw [hlh _ hlx]; simp [Lit.sameKey]) (fun s' hs' hne => by
        have : (Lit.int .i64 (s' : Int)).sameKey (.int .i64 (s : Int)) = false := Maps.sameKey_ne (int_ne (by omega))
        rw [this]; simp)
      have hb0 := (sumD_le (fun s => f (s : Int)) (fun s => Maps.has D0 (.int .i64 (s : Int)) && !left (.int .i64 (s : Int))) N (fun s hs => Hf.out s hs)).1
      have hb1 := (sumD_le (fun s => f (s : Int)) (fun s' => Maps.has D0 (.int .i64 (s' : Int)) && !(left (.int .i64 (s' : Int)) && !(Lit.int .i64 (s' : Int)).sameKey (.int .i64 (s : Int)))) N (fun s hs => Hf.out s hs)).2
      rw [hone] at hb1
      have hb2 := Hs.out
      have hfs := Hf.out s (by omega)
      rw [← hcf] at hb1 hone hfs
      have Hone := Lib.hid hone
      have Hrg1 := Lib.hid hrg1
      clear hone hcf hrg1
      generalize sumD (fun s => f (s : Int)) (fun s => Maps.has D0 (.int .i64 (s : Int)) && !left (.int .i64 (s : Int))) N = X at *
      have htop := Int.le_trans hb1 hb2
      clear hb1 hb2
      go_wp2
      go_roundw
      case rel =>
        exact ⟨_, cnt1, Hrg1.out, by omega, fun kl h => hlh kl (by rw [Bool.and_eq_true] at h; exact h.1), by rw [Hone.out], hnx1⟩
      case measure => rw [Hrg1.out.left_eq, hrg.left_eq]; exact hlt

theorem last_sum (ds : List (List Int)) : ∀ k, k ≤ ds.length → sumL (tab ds.length fun i => (lastF (ds.getD i []) : Int)) k + 1 = (topN ds k : Int)
  | 0, _ => rfl
  | k + 1, hk => by
    have ih := last_sum ds k (by omega)
    rw [sumL, tab_get _ _ _ (by omega)]
    show _ = ((topN ds k + lastF (ds.getD k []) : Nat) : Int)
    omega
def ok_SumCounts (ds : List (List Int)) : Bool := diceB ds
def res_SumCounts (ds : List (List Int)) : List Int := if diceB ds = true then tab (topN ds ds.length) (fun k => wayF ds ds.length (k : Int)) else []
def res2_SumCounts (ds : List (List Int)) : Int := if diceB ds = true then sumA (fun s => wayF ds ds.length (s : Int)) (topN ds ds.length) else 0
theorem len_SumCounts (ds : List (List Int)) : (res_SumCounts ds).length ≤ 1048576 := by
  unfold res_SumCounts
  cases h : diceB ds
  · simp
  · rw [if_pos rfl, tab_len]
    obtain ⟨h1, h6, hd⟩ := diceB_at h
    have := (topN_le ds hd ds.length (Nat.le_refl _)).2
    omega
theorem all_le (ds : List (List Int)) (hb : diceB ds = true) : sumA (fun s => wayF ds ds.length (s : Int)) (topN ds ds.length) ≤ 2985984 ∧ 1 ≤ sumA (fun s => wayF ds ds.length (s : Int)) (topN ds ds.length) := by
  obtain ⟨h1, h6, hd⟩ := diceB_at hb
  have h2 := allW_bd ds hd ds.length (Nat.le_refl _)
  have h3 := pow12_6 ds.length h6
  have e : allW ds ds.length = sumA (fun s => wayF ds ds.length (s : Int)) (topN ds ds.length) := sA_congr _ fun k _ => Int.mul_one _
  omega
