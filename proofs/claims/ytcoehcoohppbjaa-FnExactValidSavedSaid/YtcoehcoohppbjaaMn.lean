/- Contracts: lists of valid dice, in both texts. -/
import Derived.Test.YtcoehcoohppbjaaMc
import Derived.Test.YtcoehcoohppbjaaMd
set_option linter.unusedVariables false
namespace Go.Proofs.Ytcoehcoohppbjaa
open Go.RowKit

/-- how many of the first k dice are valid -/
def cntV (ds : List (List Int)) : Nat → Nat
  | 0 => 0
  | k + 1 => cntV ds k + (if dieB (ds.getD k []) = true then 1 else 0)
theorem cntV_le (ds : List (List Int)) (k : Nat) : cntV ds k ≤ k := by
  induction k with
  | zero => exact Nat.le_refl _
  | succ k ih => rw [cntV]; split <;> omega
theorem cntV_all (ds : List (List Int)) (k : Nat) (h : ∀ i, i < k → dieB (ds.getD i []) = true) : cntV ds k = k := by
  induction k with
  | zero => rfl
  | succ k ih => rw [cntV, ih (fun i hi => h i (by omega)), h k (by omega), if_pos rfl]
theorem cntV_lt (ds : List (List Int)) (n i : Nat) (hi : i < n) (h : dieB (ds.getD i []) = false) : cntV ds n < n := by
  induction n with
  | zero => omega
  | succ n ih =>
    rw [cntV]
    by_cases e : i = n
    · subst e
      have := cntV_le ds i
      rw [h, if_neg Bool.false_ne_true]; omega
    · have := ih (by omega)
      split <;> omega
def diceB (ds : List (List Int)) : Bool := (decide (1 ≤ (ds.length : Int)) && decide ((ds.length : Int) ≤ 6)) && (List.range ds.length).all fun k => dieB (ds.getD k [])
theorem diceB_at {ds : List (List Int)} (h : diceB ds = true) : 1 ≤ ds.length ∧ ds.length ≤ 6 ∧ ∀ k, k < ds.length → dieB (ds.getD k []) = true := by
  unfold diceB at h
  rw [Bool.and_eq_true, Bool.and_eq_true] at h
  obtain ⟨⟨h1, h2⟩, h3⟩ := h
  have h1 := of_decide_eq_true h1
  have h2 := of_decide_eq_true h2
  exact ⟨by omega, by omega, fun k hk => List.all_eq_true.1 h3 k (List.mem_range.2 hk)⟩
theorem diceB_cnt (ds : List (List Int)) (h1 : 1 ≤ ds.length) (h2 : ds.length ≤ 6) : diceB ds = (((cntV ds ds.length : Nat) : Int) == (ds.length : Int)) := by
  unfold diceB
  rw [decide_eq_true (by omega), decide_eq_true (by omega), Bool.true_and, Bool.true_and]
  cases e : (List.range ds.length).all fun k => dieB (ds.getD k [])
  · have : ¬ ∀ k, k < ds.length → dieB (ds.getD k []) = true := fun h => by
      rw [List.all_eq_true.2 (fun k hk => h k (List.mem_range.1 hk))] at e; cases e
    obtain ⟨k, hk⟩ := Classical.not_forall.1 this
    obtain ⟨hk1, hk2⟩ := Classical.not_imp.1 hk
    have := cntV_lt ds ds.length k hk1 (by simpa using hk2)
    symm; rw [beq_eq_false_iff_ne]; omega
  · rw [cntV_all ds ds.length (fun i hi => List.all_eq_true.1 e i (List.mem_range.2 hi))]
    simp
theorem diceB_len {ds : List (List Int)} (h : ds.length < 1 ∨ 6 < ds.length) : diceB ds = false := by
  unfold diceB
  rcases h with h | h
  · rw [decide_eq_false (show ¬ (1 : Int) ≤ ds.length by omega), Bool.false_and, Bool.false_and]
  · rw [decide_eq_false (show ¬ (ds.length : Int) ≤ 6 by omega), Bool.and_false, Bool.false_and]
theorem diceB_bad {ds : List (List Int)} (k : Nat) (hk : k < ds.length) (h : dieB (ds.getD k []) = false) : diceB ds = false := by
  cases e : diceB ds
  · rfl
  · rw [(diceB_at e).2.2 k hk] at h; cases h

set_option maxHeartbeats 1000000 in
theorem countV_any (ds : List (List Int)) (v : Value) (w : World) (hn : ds.length ≤ 1048576) (hm : totD ds ds.length ≤ 1048576) (h : SlD w v ds) :
    Calls Try.prog 128 #[v, .func (.func 129) #[] #[]] w fun e w' => e = .returned (.int .i64 ((cntV ds ds.length : Nat) : Int)) ∧ Below w.heap.size w w' := by
  obtain ⟨q, cap, rfl, hf⟩ := h
  have Hf := Lib.hid hf
  clear hf
  have Hm := Lib.hid (fun k (h : k < ds.length) => show (ds.getD k []).length ≤ 1048576 by have := totD_at ds h; omega)
  have Hv := Lib.hid (fun fs v w hn h => valid_impl fs v w hn h)
  have Hle := Lib.hid (cntV_le ds)
  have Hst := Lib.hid (fun k => show cntV ds (k + 1) = cntV ds k + (if dieB (ds.getD k []) = true then 1 else 0) from rfl)
  have hent : ∀ args w, (callFunc 129 args).run Try.prog w = .ok (.enter 129 args) w := run_enter Try.func129 (by kernel_rfl) (by kernel_rfl)
  clear hm
  obtain ⟨n, hn1⟩ : ∃ n, n = ds.length := ⟨_, rfl⟩
  rw [← hn1] at hn Hf Hm
  rw [← hn1]
  clear hn1
  go_enter Try.func128, Try.ntmps128
  go_wp2
  go_loopw [5, 10] (fun c i wr => ∃ k : Nat, k ≤ n ∧ i = .int .i64 (k : Int) ∧ c = .int .i64 ((cntV ds k : Nat) : Int) ∧ Hid (Below w.heap.size w wr)) (fun _ i _ => n - (intOf i).toNat)
  case atStart => exact ⟨0, Nat.zero_le _, rfl, rfl, Lib.hid (Below.refl _ _)⟩
  case round =>
    obtain ⟨k, hk, rfl, rfl, Hd⟩ := hrel
    have hsz := Hd.out.size
    have hle := Hle.out k
    by_cases hlt : k < n
    · obtain ⟨hcap, b, off, rfl, hbs, hcell⟩ := Hf.out (by omega)
      obtain ⟨s, g1, g2⟩ := hcell k hlt
      have c1 := cell_keep Hd.out g1
      have G2 := Lib.hid g2
      obtain ⟨ps, cs, rfl, -⟩ := g2
      generalize (ds.getD k []).length = L at *
      have Hal := Lib.hid (Hd.out.alloc hsz (.cells #[.slice ps L cs] 93))
      have Hcall := Lib.hid (Hv.out (ds.getD k []) (.agg #[.slice ps L cs]) (wr.alloc (.cells #[.slice ps L cs] 93)) (Hm.out k hlt) ⟨_, rfl, G2.out.later Hal.out⟩)
      have hst := Hst.out k
      clear hcell g1 G2
      generalize dieB (ds.getD k []) = r at *
      cases r
      · rw [if_neg Bool.false_ne_true, Nat.add_zero] at hst
        have Hst2 := Lib.hid hst
        clear hst
        go_wp2_with (refine (Hcall.out).mono ?_; rintro e w' ⟨rfl, hb2⟩; have Hb2 := Lib.hid (Hal.out.trans (hb2.mono Hal.out.size)); clear hb2)
        go_roundw
        case rel => exact ⟨k + 1, by omega, by go_num, by rw [Hst2.out]; rfl, Hb2⟩
        case measure => simp [intOf]; omega
      · rw [if_pos rfl] at hst
        have Hst2 := Lib.hid hst
        clear hst
        generalize cntV ds k = C at *
        go_wp2_with (refine (Hcall.out).mono ?_; rintro e w' ⟨rfl, hb2⟩; have Hb2 := Lib.hid (Hal.out.trans (hb2.mono Hal.out.size)); clear hb2)
        go_roundw
        case rel => exact ⟨k + 1, by omega, by go_num, by rw [Hst2.out]; go_num, Hb2⟩
        case measure => simp [intOf]; omega
    · obtain rfl : k = n := by omega
      go_wp2
      go_ret
      exact ⟨rfl, Hd.out⟩
set_option maxHeartbeats 1000000 in
theorem areDice_any (ds : List (List Int)) (v : Value) (w : World) (hn : ds.length ≤ 1048576) (hm : totD ds ds.length ≤ 1048576) (h : SlD w v ds) :
    Calls Try.prog 75 #[v] w fun e w' => e = .returned (.bool (diceB ds)) ∧ Below w.heap.size w w' := by
  have H1 := Lib.hid (fun z => withinB_any (ds.length : Int) 1 6 z)
  have H2 := Lib.hid (countV_any ds v w hn hm h)
  have hl := Lib.hid (diceB_len (ds := ds))
  have hc := Lib.hid (diceB_cnt ds)
  obtain ⟨p, cap, rfl, -⟩ := h
  generalize diceB ds = R at *
  generalize cntV ds ds.length = C at *
  clear hm
  generalize ds.length = n at *
  by_cases hb : 1 ≤ (n : Int) ∧ (n : Int) ≤ 6
  · rw [decide_eq_true hb.1, decide_eq_true hb.2] at H1
    have E := Lib.hid (hc.out (by omega) (by omega))
    go_enter Try.func75, Try.ntmps75
    go_wp2_with (first | (go_at_call 89; refine (H1.out _).mono ?_; rintro e w' ⟨rfl, rfl⟩) | (refine (H2.out).mono ?_; rintro e w' ⟨rfl, hb2⟩; have Hb2 := Lib.hid hb2; clear hb2))
    go_ret
    exact ⟨ret_bool E.out.symm, Hb2.out⟩
  · rw [show (decide (1 ≤ (n : Int)) && decide ((n : Int) ≤ 6)) = false by simpa using hb] at H1
    have E := Lib.hid (hl.out (by omega))
    clear hb
    go_enter Try.func75, Try.ntmps75
    go_wp2_with (go_at_call 89; refine (H1.out _).mono ?_; rintro e w' ⟨rfl, rfl⟩)
    go_ret
    exact ⟨ret_bool E.out.symm, Below.refl _ _⟩
