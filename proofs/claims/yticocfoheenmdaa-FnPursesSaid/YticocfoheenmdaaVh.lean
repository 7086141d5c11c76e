/- Tallies: how many rows there are; a key deleted; what a delete and a store leave. -/
import Derived.Test.YticocfoheenmdaaVa
set_option linter.unusedVariables false
namespace Go.Proofs.Yticocfoheenmdaa
open Go.RowKit Go.Maps

set_option maxRecDepth 100000 in
set_option maxHeartbeats 4000000 in
theorem all_any (bt n0 N : Nat) (f : Int → Int) (w : World) (ht : TV w bt n0 N f) (hn0 : n0 ≤ 1000) (hN : N ≤ 1000) (hf : ∀ s, s < N → 0 ≤ f (s : Int)) (hs : sumA (fun s => f (s : Int)) N ≤ 4611686018427387904) :
    Calls Try.prog 52 #[.map (some bt)] w fun e w' => e = .returned (.int .i64 (sumA (fun s => f (s : Int)) N)) ∧ Below w.heap.size w w' := by
  obtain ⟨D0, hown, hat0, hks⟩ := ht
  have hsz0 := size_le hown
  have Hf := Lib.hid hf
  have Hs := Lib.hid hs
  have Hat0 := Lib.hid hat0
  have Hks := Lib.hid (fun k hk => keys_in hks k hk)
  clear hat0 hks hf hs
  have hbl := hown.lt
  go_enter Try.func52, Try.ntmps52
  go_wp2_with (first
    | (at_range; refine wpList_range_own _ rfl _ 53 rfl 2 2 lawI Try.underlying53 _ bt n0 _ rfl hown ?_; intro w0 hrg0 hg0 hs0)
    | go_in)
  go_frame
  go_loopw [3, 8] (fun c _ wr => ∃ (left : Lit → Bool) (cnt : Nat), wr.ranges Try.prog 2 (plainElem (H := Unit) Try.prog 2) bt w.heap.size n0 D0 left cnt ∧ cnt ≤ 1000 ∧ (∀ kl, left kl = true → Maps.has D0 kl = true) ∧
      c = .int .i64 (sumD (fun s => f (s : Int)) (fun s => Maps.has D0 (.int .i64 (s : Int)) && !left (.int .i64 (s : Int))) N) ∧ Hid (Below w.heap.size w wr))
    (fun _ _ wr => wr.rangeLeft bt w.heap.size)
  case atStart =>
    refine ⟨_, _, hrg0, by omega, fun kl h => h, ?_, Lib.hid ((Below.refl _ w).grown hg0 (Nat.le_refl _) (fun j hj => by cases hj))⟩
    rw [sumD_none _ _ _ (fun s _ => by simp)]
  case round =>
    obtain ⟨left, cnt, hrg, hcn, hlh, rfl, hnx⟩ := hrel
    go_wp2_with (first
      | (at_next; refine wpList_next_ranges_ii _ rfl _ rfl 2 2 .i64 .i64 lawI Try.underlying2 Try.underlying2 bt w.heap.size n0 _ _ _ rfl hrg ?_ ?_)
      | go_in)
    · intro hc0 hl0
      have E : Hid (sumD (fun s => f (s : Int)) (fun s => Maps.has D0 (.int .i64 (s : Int)) && !left (.int .i64 (s : Int))) N = sumA (fun s => f (s : Int)) N) := Lib.hid (sumD_all _ _ _ fun s hs hd => by
        rw [hl0, Bool.not_false, Bool.and_true] at hd
        have h1 := Hat0.out (s : Int)
        rw [Maps.atKey_of_not_has hd] at h1
        injection h1 with h1
        injection h1 with _ h1
        exact h1.symm)
      go_wp2
      go_ret
      exact ⟨ret_int E.out, hnx.out⟩
    · intro x c w1 cnt1 hwx hwc hlx hat hrg1 hlt hg1 hs1 hen
      obtain ⟨x0, x1⟩ := Hks.out x (hlh _ hlx)
      obtain ⟨s, rfl⟩ : ∃ s : Nat, x = s := ⟨x.toNat, by omega⟩
      have hcf : c = f (s : Int) := by
        have h1 := Hat0.out (s : Int)
        rw [hat] at h1
        injection h1 with h1
        injection h1
      have hnx1 := Lib.hid (hnx.out.grown hg1 hnx.out.size (fun j hj => by cases hj; omega))
      have hone := sumD_one (fun s => f (s : Int)) (fun s => Maps.has D0 (.int .i64 (s : Int)) && !left (.int .i64 (s : Int))) (fun s' => Maps.has D0 (.int .i64 (s' : Int)) && !(left (.int .i64 (s' : Int)) && !(Lit.int .i64 (s' : Int)).sameKey (.int .i64 (s : Int)))) N s (by omega) (by rw [hlx]; simp) (by rw [hlh _ hlx]; simp [Lit.sameKey]) (fun s' hs' hne => by
        have : (Lit.int .i64 (s' : Int)).sameKey (.int .i64 (s : Int)) = false := Maps.sameKey_ne (int_ne (by omega))
        rw [this]; simp)
      have hb0 := (sumD_le (fun s => f (s : Int)) (fun s => Maps.has D0 (.int .i64 (s : Int)) && !left (.int .i64 (s : Int))) N (fun s hs => Hf.out s hs)).1
      have hb1 := (sumD_le (fun s => f (s : Int)) (fun s' => Maps.has D0 (.int .i64 (s' : Int)) && !(left (.int .i64 (s' : Int)) && !(Lit.int .i64 (s' : Int)).sameKey (.int .i64 (s : Int)))) N (fun s hs => Hf.out s hs)).2
      rw [hone] at hb1
      have hb2 := Hs.out
      have hfs := Hf.out s (by omega)
      rw [← hcf] at hb1 hone hfs
      have Hone := Lib.hid hone
      have Hrg1 := Lib.hid hrg1
      clear hone hcf hrg1
      generalize sumD (fun s => f (s : Int)) (fun s => Maps.has D0 (.int .i64 (s : Int)) && !left (.int .i64 (s : Int))) N = X at *
      have htop := Int.le_trans hb1 hb2
      clear hb1 hb2
      go_wp2
      go_roundw
      case rel =>
        exact ⟨_, cnt1, Hrg1.out, by omega, fun kl h => hlh kl (by rw [Bool.and_eq_true] at h; exact h.1), by rw [Hone.out], hnx1⟩
      case measure => rw [Hrg1.out.left_eq, hrg.left_eq]; exact hlt
theorem turned_only {w w' : World} {b : Nat} (h : w.mapTurned w' b) : Only b (b + 1) w w' := by
  have g := h.grown
  obtain ⟨es, clock, es', clock', hb, rfl⟩ := h
  exact ⟨rfl, rfl, rfl, by simp [Go.ChangeMaps.setBlock], fun i hi => by
    by_cases hs : i < w.heap.size
    · exact g.block i hs (fun e => hi (by injection e with e; omega))
    · rw [Array.getElem?_eq_none (by simp [Go.ChangeMaps.setBlock]; omega), Array.getElem?_eq_none (by omega)]⟩
theorem only_grown {w w' : World} {b : Nat} (h : Only b (b + 1) w w') : w.grownBy w' (some b) :=
  ⟨h.os, h.tape, h.output, Nat.le_of_eq h.size.symm, fun i _ hne => h.block i (fun e => hne (by congr 1; omega))⟩

/-- without those of n -/
def cutA (n : Nat) (f : Int → Int) (k : Int) : Int := if k = (n : Int) then 0 else f k
theorem TV.cutN {w : World} {b n N m : Nat} {D : DataW Unit} {f : Int → Int} (h1 : w.ownsMap Try.prog 2 (plainElem (H := Unit) Try.prog 2) b n (D.del (.int .i64 (m : Int))))
    (h2 : ∀ k : Int, D.atKey (.int .i64 k) (.lit (.int .i64 0)) = .lit (.int .i64 (f k))) (h3 : ∀ kl : Lit, Maps.has D kl = true → ∃ k : Nat, kl = .int .i64 (k : Int) ∧ k < N) (hN : N = m + 1) : TV w b n m (cutA m f) := by
  refine ⟨_, h1, fun k => ?_, fun kl hk => ?_⟩
  · unfold cutA
    by_cases e : k = (m : Int)
    · subst e; rw [if_pos rfl]; exact atKey_del_same _
    · rw [if_neg e, atKey_del_other (int_ne e)]; exact h2 k
  · by_cases e : kl = .int .i64 (m : Int)
    · subst e; rw [has_del_same] at hk; cases hk
    · rw [has_del_other e] at hk
      obtain ⟨k, e1, e2⟩ := h3 kl hk
      refine ⟨k, e1, ?_⟩
      by_cases e3 : k = m
      · subst e3; exact absurd e1 e
      · omega
end Go.Proofs.Yticocfoheenmdaa
