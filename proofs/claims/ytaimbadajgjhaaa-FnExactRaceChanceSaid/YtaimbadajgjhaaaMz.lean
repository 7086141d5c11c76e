/- Contracts: means of dice, in both texts. -/
import Derived.Test.YtaimbadajgjhaaaMy
import Derived.Test.YtaimbadajgjhaaaMk
set_option linter.unusedVariables false
namespace Go.Proofs.Ytaimbadajgjhaaa
open Go.RowKit Go.Maps

theorem dist2 (s f : Int) : (s + f) * (s + f) = s * s + (s * f + s * f) + f * f := by
  rw [Int.add_mul, Int.mul_add, Int.mul_add, Int.mul_comm f s]; omega
/-- the sum of the squares of the first k numbers -/
def sqL (fs : List Int) : Nat → Int
  | 0 => 0
  | k + 1 => sqL fs k + fs.getD k 0 * fs.getD k 0
theorem faceS1 (fs : List Int) (s : Nat) : ∀ k, (∀ i, i < k → 0 ≤ fs.getD i 0) → sumA (fun i => ((s + (fs.getD i 0).toNat : Nat) : Int)) k = (k : Int) * (s : Int) + sumL fs k
  | 0, _ => by show (0 : Int) = (0 : Int) * _ + 0; rw [Int.zero_mul]; rfl
  | k + 1, h => by
    have := h k (by omega)
    rw [sA_succ, faceS1 fs s k (fun i hi => h i (by omega)), sumL, show ((k + 1 : Nat) : Int) = (k : Int) + 1 from rfl, Int.add_mul, Int.one_mul]
    omega
theorem faceS2 (fs : List Int) (s : Nat) : ∀ k, (∀ i, i < k → 0 ≤ fs.getD i 0) → sumA (fun i => ((s + (fs.getD i 0).toNat : Nat) : Int) * ((s + (fs.getD i 0).toNat : Nat) : Int)) k = (k : Int) * ((s : Int) * (s : Int)) + (2 * sumL fs k * (s : Int) + sqL fs k)
  | 0, _ => by show (0 : Int) = (0 : Int) * _ + (2 * 0 * _ + 0); rw [Int.zero_mul, Int.mul_zero, Int.zero_mul]; rfl
  | k + 1, h => by
    have h0 := h k (by omega)
    rw [sA_succ, faceS2 fs s k (fun i hi => h i (by omega)), sumL, sqL, show ((k + 1 : Nat) : Int) = (k : Int) + 1 from rfl, Int.add_mul, Int.one_mul]
    rw [show ((s + (fs.getD k 0).toNat : Nat) : Int) = (s : Int) + fs.getD k 0 by omega, dist2, Int.mul_add 2, Int.add_mul _ _ (s : Int), Int.mul_assoc 2 (fs.getD k 0), Int.mul_comm (fs.getD k 0) (s : Int)]
    omega
def mean1 (ds : List (List Int)) (j : Nat) : Int := momF ds (fun k => (k : Int)) j
def mean2 (ds : List (List Int)) (j : Nat) : Int := momF ds (fun k => (k : Int) * (k : Int)) j
theorem mean1_zero (ds : List (List Int)) : mean1 ds 0 = 0 := rfl
theorem mean2_zero (ds : List (List Int)) : mean2 ds 0 = 0 := rfl
theorem mean1_step (ds : List (List Int)) (j : Nat) (h : dieB (ds.getD j []) = true) : mean1 ds (j + 1) = mean1 ds j * ((ds.getD j []).length : Int) + sumL (ds.getD j []) (ds.getD j []).length * allW ds j := by
  obtain ⟨-, -, ha, -⟩ := dieB_at h
  unfold mean1 allW
  rw [momF_step ds _ j h, momF_congr ds j (h := fun s => ((ds.getD j []).length : Int) * (s : Int) + sumL (ds.getD j []) (ds.getD j []).length * 1) (fun s => by rw [faceS1 _ _ _ (fun i hi => (ha i hi).1), Int.mul_one]), momF_add, momF_mul, momF_mul, Int.mul_comm (momF ds _ j)]
theorem mean2_step (ds : List (List Int)) (j : Nat) (h : dieB (ds.getD j []) = true) : mean2 ds (j + 1) = ((ds.getD j []).length : Int) * mean2 ds j + (2 * sumL (ds.getD j []) (ds.getD j []).length * mean1 ds j + sqL (ds.getD j []) (ds.getD j []).length * allW ds j) := by
  obtain ⟨-, -, ha, -⟩ := dieB_at h
  unfold mean2 mean1 allW
  rw [momF_step ds _ j h, momF_congr ds j (h := fun s => ((ds.getD j []).length : Int) * ((s : Int) * (s : Int)) + (2 * sumL (ds.getD j []) (ds.getD j []).length * (s : Int) + sqL (ds.getD j []) (ds.getD j []).length * 1)) (fun s => by rw [faceS2 _ _ _ (fun i hi => (ha i hi).1), Int.mul_one]), momF_add, momF_add, momF_mul, momF_mul, momF_mul]
theorem momF_le (ds : List (List Int)) (g : Nat → Int) (c : Int) (j : Nat) (h : ∀ k, k < topN ds j → 0 ≤ g k ∧ g k ≤ c) : 0 ≤ momF ds g j ∧ momF ds g j ≤ c * allW ds j := by
  unfold allW
  rw [← momF_mul]
  unfold momF
  generalize topN ds j = T at *
  induction T with
  | zero => exact ⟨Int.le_refl _, Int.le_refl _⟩
  | succ T ih =>
    have ih := ih (fun k hk => h k (by omega))
    have h0 := h T (by omega)
    have h1 := wayF_nonneg ds j T
    have m0 := Int.mul_nonneg h1 h0.1
    have m1 := Int.mul_le_mul_of_nonneg_left h0.2 h1
    rw [Int.mul_one] at ih ⊢
    show 0 ≤ sumA (fun k => wayF ds j (k : Int) * g k) T + wayF ds j (T : Int) * g T ∧ sumA (fun k => wayF ds j (k : Int) * g k) T + wayF ds j (T : Int) * g T ≤ sumA (fun k => wayF ds j (k : Int) * c) T + wayF ds j (T : Int) * c
    have ih2 : 0 ≤ sumA (fun k => wayF ds j (k : Int) * g k) T ∧ sumA (fun k => wayF ds j (k : Int) * g k) T ≤ sumA (fun k => wayF ds j (k : Int) * c) T := ih
    omega
theorem mean_bd (ds : List (List Int)) (h6 : ds.length ≤ 6) (hd : ∀ k, k < ds.length → dieB (ds.getD k []) = true) (j : Nat) (hj : j ≤ ds.length) : (0 ≤ mean1 ds j ∧ mean1 ds j ≤ 358318080) ∧ (0 ≤ mean2 ds j ∧ mean2 ds j ≤ 42998169600) ∧ 1 ≤ allW ds j ∧ allW ds j ≤ 2985984 := by
  have hT := topN_le ds hd j hj
  have hA := allW_bd ds hd j hj
  have h12 := pow12_6 j (by omega)
  have h1 := momF_le ds (fun k => (k : Int)) 120 j (fun k hk => by omega)
  have h2 := momF_le ds (fun k => (k : Int) * (k : Int)) 14400 j (fun k hk => by
    have a0 : (0 : Int) ≤ (k : Int) := by omega
    have a1 : (k : Int) ≤ 120 := by omega
    exact ⟨Int.mul_nonneg a0 a0, by have := Int.mul_le_mul a1 a1 a0 (by omega); omega⟩)
  unfold mean1 mean2
  omega
theorem sum_bd (fs : List Int) (h : dieB fs = true) : ∀ k, k ≤ fs.length → (0 ≤ sumL fs k ∧ sumL fs k ≤ (k : Int) * 20) ∧ 0 ≤ sqL fs k ∧ sqL fs k ≤ (k : Int) * 400
  | 0, _ => by show (0 ≤ (0 : Int) ∧ (0 : Int) ≤ (0 : Int) * 20) ∧ 0 ≤ (0 : Int) ∧ (0 : Int) ≤ (0 : Int) * 400; omega
  | k + 1, hk => by
    have ih := sum_bd fs h k (by omega)
    obtain ⟨-, -, ha, -⟩ := dieB_at h
    have h0 := ha k (by omega)
    have m0 := Int.mul_nonneg h0.1 h0.1
    have m1 := Int.mul_le_mul h0.2 h0.2 h0.1 (by omega)
    rw [sumL, sqL]
    omega

theorem itself_any (x : Int) (w : World) : Calls Try.prog 69 #[.int .i64 x] w fun e w' => e = .returned (.int .i64 x) ∧ w = w' := by
  go_enter Try.func69, Try.ntmps69
  go_wp2
  go_ret
  exact ⟨rfl, rfl⟩
theorem square_any (x : Int) (w : World) (h0 : 0 ≤ x) (h1 : x ≤ 2147483647) : Calls Try.prog 70 #[.int .i64 x] w fun e w' => e = .returned (.int .i64 (x * x)) ∧ w = w' := by
  have m0 := Int.mul_nonneg h0 h0
  have m1 := Int.mul_le_mul h1 h1 h0 (by omega)
  go_enter Try.func70, Try.ntmps70
  go_wp2
  go_ret
  exact ⟨rfl, rfl⟩
set_option maxRecDepth 100000 in
set_option maxHeartbeats 4000000 in
theorem total_any (K bt n0 N : Nat) (f : Int → Int) (g : Nat → Int) (w : World) (ht : TV w bt n0 N f) (hn0 : n0 ≤ 1000) (hN : N ≤ 1000) (hf : ∀ s, s < N → 0 ≤ f (s : Int) * g s) (hs : sumA (fun s => f (s : Int) * g s) N ≤ 4611686018427387904)
    (hent : ∀ args w, (callFunc K args).run Try.prog w = .ok (.enter K args) w)
    (hc : ∀ (s : Nat) w', s < N → Calls Try.prog K #[.int .i64 (s : Int)] w' fun e w'' => e = .returned (.int .i64 (g s)) ∧ w' = w'') :
    Calls Try.prog 68 #[.map (some bt), .func (.func K) #[] #[]] w fun e w' => e = .returned (.int .i64 (sumA (fun s => f (s : Int) * g s) N)) ∧ Below w.heap.size w w' := by
  obtain ⟨D0, hown, hat0, hks⟩ := ht
  have hsz0 := size_le hown
  have Hf := Lib.hid hf
  have Hs := Lib.hid hs
  have Hc := Lib.hid hc
  have Hat0 := Lib.hid hat0
  have Hks := Lib.hid (fun k hk => keys_in hks k hk)
  clear hat0 hks hf hs hc
  have hbl := hown.lt
  go_enter Try.func68, Try.ntmps68
  go_wp2_with (first
    | (at_range; refine wpList_range_own _ rfl _ 69 rfl 2 2 lawI Try.underlying69 _ bt n0 _ rfl hown ?_; intro w0 hrg0 hg0 hs0)
    | go_in)
  go_frame
  go_loopw [5, 10] (fun c _ wr => ∃ (left : Lit → Bool) (cnt : Nat), wr.ranges Try.prog 2 (plainElem (H := Unit) Try.prog 2) bt w.heap.size n0 D0 left cnt ∧ cnt ≤ 1000 ∧ (∀ kl, left kl = true → Maps.has D0 kl = true) ∧
      c = .int .i64 (sumD (fun s => f (s : Int) * g s) (fun s => Maps.has D0 (.int .i64 (s : Int)) && !left (.int .i64 (s : Int))) N) ∧ Hid (Below w.heap.size w wr))
    (fun _ _ wr => wr.rangeLeft bt w.heap.size)
  case atStart =>
    refine ⟨_, _, hrg0, by omega, fun kl h => h, ?_, Lib.hid ((Below.refl _ w).grown hg0 (Nat.le_refl _) (fun j hj => by cases hj))⟩
    rw [sumD_none _ _ _ (fun s _ => by simp)]
  case round =>
    obtain ⟨left, cnt, hrg, hcn, hlh, rfl, hnx⟩ := hrel
    go_wp2_with (first
      | (at_next; refine wpList_next_ranges_ii _ rfl _ rfl 2 2 .i64 .i64 lawI Try.underlying2 Try.underlying2 bt w.heap.size n0 _ _ _ rfl hrg ?_ ?_)
      | go_in)
    · intro hc0 hl0
      have E : Hid (sumD (fun s => f (s : Int) * g s) (fun s => Maps.has D0 (.int .i64 (s : Int)) && !left (.int .i64 (s : Int))) N = sumA (fun s => f (s : Int) * g s) N) := Lib.hid (sumD_all _ _ _ fun s hs hd => by
        rw [hl0, Bool.not_false, Bool.and_true] at hd
        have h1 := Hat0.out (s : Int)
        rw [Maps.atKey_of_not_has hd] at h1
        injection h1 with h1
        injection h1 with _ h1
        rw [← h1, Int.zero_mul])
      go_wp2
      go_ret
      exact ⟨ret_int E.out, hnx.out⟩
    · intro x c w1 cnt1 hwx hwc hlx hat hrg1 hlt hg1 hs1 hen
      obtain ⟨x0, x1⟩ := Hks.out x (hlh _ hlx)
      obtain ⟨s, rfl⟩ : ∃ s : Nat, x = s := ⟨x.toNat, by omega⟩
      have hcf : c = f (s : Int) := by
        have h1 := Hat0.out (s : Int)
        rw [hat] at h1
        injection h1 with h1
        injection h1
      have hnx1 := Lib.hid (hnx.out.grown hg1 hnx.out.size (fun j hj => by cases hj; omega))
      have hone := sumD_one (fun s => f (s : Int) * g s) (fun s => Maps.has D0 (.int .i64 (s : Int)) && !left (.int .i64 (s : Int))) (fun s' => Maps.has D0 (.int .i64 (s' : Int)) && !(left (.int .i64 (s' : Int)) && !(Lit.int .i64 (s' : Int)).sameKey (.int .i64 (s : Int)))) N s (by omega) (by rw [hlx]; simp) (by rw [hlh _ hlx]; simp [Lit.sameKey]) (fun s' hs' hne => by
        have : (Lit.int .i64 (s' : Int)).sameKey (.int .i64 (s : Int)) = false := Maps.sameKey_ne (int_ne (by omega))
        rw [this]; simp)
      have hb0 := (sumD_le (fun s => f (s : Int) * g s) (fun s => Maps.has D0 (.int .i64 (s : Int)) && !left (.int .i64 (s : Int))) N (fun s hs => Hf.out s hs)).1
      have hb1 := (sumD_le (fun s => f (s : Int) * g s) (fun s' => Maps.has D0 (.int .i64 (s' : Int)) && !(left (.int .i64 (s' : Int)) && !(Lit.int .i64 (s' : Int)).sameKey (.int .i64 (s : Int)))) N (fun s hs => Hf.out s hs)).2
      rw [hone] at hb1
      have hb2 := Hs.out
      have hfs := Hf.out s (by omega)
      rw [← hcf] at hb1 hone hfs
      have Hone := Lib.hid hone
      have Hrg1 := Lib.hid hrg1
      have Hcall := Lib.hid (Hc.out s w1 (by omega))
      clear hone hcf hrg1
      generalize sumD (fun s => f (s : Int) * g s) (fun s => Maps.has D0 (.int .i64 (s : Int)) && !left (.int .i64 (s : Int))) N = X at *
      have htop := Int.le_trans hb1 hb2
      clear hb1 hb2
      generalize g s = G at *
      go_wp2_with (refine (Hcall.out).mono ?_; rintro e w' ⟨rfl, rfl⟩)
      go_roundw
      case rel =>
        exact ⟨_, cnt1, Hrg1.out, by omega, fun kl h => hlh kl (by rw [Bool.and_eq_true] at h; exact h.1), by rw [Hone.out], hnx1⟩
      case measure => rw [Hrg1.out.left_eq, hrg.left_eq]; exact hlt

def ok_MeanOf (ds : List (List Int)) : Bool := diceB ds
def res_MeanOf (ds : List (List Int)) : Int := if diceB ds = true then mean1 ds ds.length / gcdI (mean1 ds ds.length) (allW ds ds.length) else 0
def res2_MeanOf (ds : List (List Int)) : Int := if diceB ds = true then allW ds ds.length / gcdI (mean1 ds ds.length) (allW ds ds.length) else 0
theorem allW_sum (ds : List (List Int)) (j : Nat) : allW ds j = sumA (fun s => wayF ds j (s : Int)) (topN ds j) := sA_congr _ fun k _ => Int.mul_one _
set_option maxHeartbeats 4000000 in
theorem impl_MeanOf (ds : List (List Int)) (v : Value) (w : World) (hn : ds.length ≤ 1048576) (hm : totD ds ds.length ≤ 1048576) (h : SlD w v ds) :
    Calls Try.prog 32 #[v] w fun e w' => e = .returned (.tuple #[.int .i64 (res_MeanOf ds), .int .i64 (res2_MeanOf ds), .bool (ok_MeanOf ds)]) ∧ Below w.heap.size w w' := by
  have Hv := Lib.hid (areDice_any ds v w hn hm h)
  have Hs := Lib.hid (fun hb z (hz : Below w.heap.size w z) => sums_impl ds v z hb (h.later hz))
  unfold res_MeanOf res2_MeanOf ok_MeanOf
  obtain ⟨q, cap, rfl, -⟩ := h
  cases hb : diceB ds
  · rw [hb] at Hv
    rw [if_neg Bool.false_ne_true, if_neg Bool.false_ne_true]
    clear hb hm hn Hs
    generalize ds.length = n at *
    go_enter Try.func32, Try.ntmps32
    go_wp2_with fail
    refine (Hv.out).mono ?_
    rintro e w2 ⟨rfl, hd⟩
    have Hd := Lib.hid hd
    clear hd
    go_wp2
    go_ret3
    exact ⟨rfl, Hd.out⟩
  · rw [hb] at Hv
    rw [if_pos rfl, if_pos rfl]
    obtain ⟨h1, h6, hd⟩ := diceB_at hb
    have hT := topN_le ds hd ds.length (Nat.le_refl _)
    have hmb := mean_bd ds h6 hd ds.length (Nat.le_refl _)
    have hS1 : mean1 ds ds.length = sumA (fun s => wayF ds ds.length (s : Int) * (s : Int)) (topN ds ds.length) := rfl
    have Hs2 := Lib.hid (Hs.out hb)
    have HA := Lib.hid (fun z bt (h : TV z bt (topN ds ds.length) (topN ds ds.length) (wayF ds ds.length)) => all_any bt (topN ds ds.length) (topN ds ds.length) (wayF ds ds.length) z h (by omega) (by omega) (fun s _ => wayF_nonneg ds _ _) (by rw [← allW_sum]; omega))
    rw [← allW_sum] at HA
    have HT := Lib.hid (fun z bt (h : TV z bt (topN ds ds.length) (topN ds ds.length) (wayF ds ds.length)) => total_any 69 bt (topN ds ds.length) (topN ds ds.length) (wayF ds ds.length) (fun k => (k : Int)) z h (by omega) (by omega) (fun s _ => Int.mul_nonneg (wayF_nonneg ds _ _) (by omega)) (by rw [← hS1]; omega)
      (run_enter Try.func69 (by kernel_rfl) (by kernel_rfl)) (fun s w' _ => itself_any (s : Int) w'))
    rw [← hS1] at HT
    have HF := Lib.hid (fun z => fracQ_any (mean1 ds ds.length) (allW ds ds.length) z (by omega) (by omega) (by omega) (by omega))
    clear Hs hS1 hb hm hn hd hmb hT
    generalize mean1 ds ds.length = S at *
    generalize allW ds ds.length = A at *
    generalize wayF ds ds.length = WF at *
    generalize topN ds ds.length = T at *
    generalize ds.length = n at *
    go_enter Try.func32, Try.ntmps32
    go_wp2_with fail
    refine (Hv.out).mono ?_
    rintro e w2 ⟨rfl, hd⟩
    have Hd := Lib.hid hd
    clear hd
    go_wp2_with fail
    refine (Hs2.out _ Hd.out).mono ?_
    rintro e w3 ⟨bm, rfl, ht, hd⟩
    have Ht := Lib.hid ht
    have Hd3 := Lib.hid (below_step Hd.out hd (Nat.le_refl _))
    clear hd ht
    go_wp2_with fail
    refine (HT.out _ _ Ht.out).mono ?_
    rintro e w4 ⟨rfl, hd⟩
    have Ht4 := Lib.hid (Ht.out.later hd)
    have Hd4 := Lib.hid (below_step Hd3.out hd (Nat.le_refl _))
    clear hd
    go_wp2_with fail
    refine (HA.out _ _ Ht4.out).mono ?_
    rintro e w5 ⟨rfl, hd⟩
    have Hd5 := Lib.hid (below_step Hd4.out hd (Nat.le_refl _))
    clear hd
    go_wp2_with fail
    refine (HF.out _).mono ?_
    rintro e w6 ⟨rfl, hd⟩
    have Hd6 := Lib.hid (Hd5.out.trans (hd.below _))
    clear hd
    go_wp2
    go_ret3
    exact ⟨rfl, Hd6.out⟩
set_option maxRecDepth 100000 in
set_option maxHeartbeats 4000000 in
theorem spec_MeanOf (ds : List (List Int)) (v : Value) (w : World) (hn : ds.length ≤ 1048576) (hm : totD ds ds.length ≤ 1048576) (h : SlD w v ds) :
    Calls Try.prog 31 #[v] w fun e w' => e = .returned (.tuple #[.int .i64 (res_MeanOf ds), .int .i64 (res2_MeanOf ds), .bool (ok_MeanOf ds)]) ∧ Below w.heap.size w w' := by
  have Hv := Lib.hid (diceS_any ds v w hn hm h)
  unfold res_MeanOf res2_MeanOf ok_MeanOf
  obtain ⟨q, cap, rfl, hf⟩ := h
  have Hf := Lib.hid hf
  clear hf
  cases hb : diceB ds
  · rw [hb] at Hv
    rw [if_neg Bool.false_ne_true, if_neg Bool.false_ne_true]
    clear hb hm hn
    generalize ds.length = n at *
    go_enter Try.func31, Try.ntmps31
    go_wp2_with fail
    refine (Hv.out).mono ?_
    rintro e w2 ⟨rfl, hd⟩
    have Hd := Lib.hid (hd.below w.heap.size)
    clear hd
    go_wp2
    go_ret3
    exact ⟨rfl, Hd.out⟩
  · rw [hb] at Hv
    rw [if_pos rfl, if_pos rfl]
    obtain ⟨h1, h6, hd⟩ := diceB_at hb
    have HB := Lib.hid (fun j hj => mean_bd ds h6 hd j hj)
    have HM := Lib.hid (fun j (hj : j < ds.length) => mean1_step ds j (hd j hj))
    have HA := Lib.hid (fun j (hj : j < ds.length) => allW_step ds j (hd j hj))
    have HL := Lib.hid (fun j (hj : j < ds.length) => (dieB_at (hd j hj)).2.1)
    have HL1 := Lib.hid (fun j (hj : j < ds.length) => (dieB_at (hd j hj)).1)
    have HSm := Lib.hid (fun j (hj : j < ds.length) => (sum_bd (ds.getD j []) (hd j hj) (ds.getD j []).length (Nat.le_refl _)).1)
    have HS := Lib.hid (fun j (hj : j < ds.length) u z (h : Sl (Value.int .i64) 0 z u (ds.getD j [])) => sumS_any (ds.getD j []) u z (by have := (dieB_at (hd j hj)).2.1; omega) (fun k hk => by have := (sum_bd (ds.getD j []) (hd j hj) k hk).1; have := (dieB_at (hd j hj)).2.1; omega) h)
    have m0 := HB.out ds.length (Nat.le_refl _)
    have HF := Lib.hid (fun z => frac5_any (mean1 ds ds.length) (allW ds ds.length) z (by omega) (by omega) (by omega) (by omega))
    have z1 := mean1_zero ds
    have z2 := allW_zero ds
    clear hd hb hm m0
    obtain ⟨n, hn1⟩ : ∃ n, n = ds.length := ⟨_, rfl⟩
    rw [← hn1] at h1 h6 Hf HB HM HA HL HL1 HSm HS HF Hv hn
    rw [← hn1]
    clear hn1
    go_enter Try.func31, Try.ntmps31
    go_wp2_with fail
    refine (Hv.out).mono ?_
    rintro e w2 ⟨rfl, hd⟩
    have Hd := Lib.hid hd
    clear hd Hv
    go_wp2
    go_loopw [5, 6, 16] (fun x y i wr => ∃ j : Nat, j ≤ n ∧ i = .int .i64 (j : Int) ∧ x = .int .i64 (mean1 ds j) ∧ y = .int .i64 (allW ds j) ∧ Drawn w wr) (fun _ _ i _ => n - (intOf i).toNat)
    case atStart => exact ⟨0, Nat.zero_le _, rfl, by rw [z1], by rw [z2], Hd.out⟩
    case round =>
      obtain ⟨j, hj, rfl, rfl, rfl, hw⟩ := hrel
      by_cases hlt : j < n
      · obtain ⟨hcap, b, off, rfl, hbs, hcell⟩ := Hf.out (by omega)
        obtain ⟨s, g1, g2⟩ := hcell j hlt
        have c1 := (hw.cell _).trans g1
        have hL := HL.out j hlt
        have hL1 := HL1.out j hlt
        have hB := HB.out j hj
        have hB1 := HB.out (j + 1) (by omega)
        have hsm := HSm.out j hlt
        have HM1 := Lib.hid (HM.out j hlt)
        have HA1 := Lib.hid (HA.out j hlt)
        have Hcall := Lib.hid (HS.out j hlt s wr (g2.drawn hw))
        rw [HM1.out, HA1.out] at hB1
        obtain ⟨ps, cs, rfl, -⟩ := g2
        clear hcell g1
        generalize sumL (ds.getD j []) (ds.getD j []).length = F at *
        generalize (ds.getD j []).length = L at *
        obtain ⟨⟨b1, b2⟩, -, b5, b6⟩ := hB
        obtain ⟨⟨b7, b8⟩, -, b11, b12⟩ := hB1
        have p1 := Int.mul_le_mul b2 (show (L : Int) ≤ 12 by omega) (by omega) (by omega)
        have p0 := Int.mul_nonneg b1 (show 0 ≤ (L : Int) by omega)
        have p3 := Int.mul_le_mul (show F ≤ 240 by omega) b6 (by omega) (by omega)
        have p2 := Int.mul_nonneg hsm.1 (show 0 ≤ allW ds j by omega)
        have HA2 := Lib.hid (HA1.out.trans (Int.mul_comm _ _))
        rw [Int.mul_comm] at b11 b12
        clear HA1
        generalize mean1 ds j = S at *
        generalize allW ds j = A at *
        go_wp2_with fail
        refine (Hcall.out).mono ?_
        rintro e w3 ⟨rfl, hd⟩
        have Hw3 := Lib.hid (hw.trans hd)
        clear hd
        go_wp2
        go_roundw
        case rel => exact ⟨j + 1, by omega, by go_num, by rw [HM1.out], by rw [HA2.out], Hw3.out⟩
        case measure => simp [intOf]; omega
      · obtain rfl : j = n := by omega
        go_wp2_with fail
        refine (HF.out _).mono ?_
        rintro e w3 ⟨rfl, hd⟩
        have Hw3 := Lib.hid ((hw.trans hd).below w.heap.size)
        clear hd
        go_wp2
        go_ret3
        exact ⟨rfl, Hw3.out⟩
end Go.Proofs.Ytaimbadajgjhaaa
