/- Contracts: how many of a list; numbers within bounds; ascending lists. -/
import Derived.Test.YtodmaomngpnboaaQa
set_option linter.unusedVariables false
namespace Go.Proofs.Ytodmaomngpnboaa
open Go.RowKit

/-- of how many of the first k something holds -/
def cntP (p : Int → Bool) (fs : List Int) : Nat → Nat
  | 0 => 0
  | k + 1 => cntP p fs k + (if p (fs.getD k 0) = true then 1 else 0)
theorem cntP_le (p : Int → Bool) (fs : List Int) (k : Nat) : cntP p fs k ≤ k := by
  induction k with
  | zero => exact Nat.le_refl _
  | succ k ih => rw [cntP]; split <;> omega
theorem cntP_zero (p : Int → Bool) (fs : List Int) (k : Nat) (h : ∀ i, i < k → p (fs.getD i 0) = false) : cntP p fs k = 0 := by
  induction k with
  | zero => rfl
  | succ k ih => rw [cntP, ih (fun i hi => h i (by omega)), h k (by omega)]; rfl
theorem cntP_mono (p : Int → Bool) (fs : List Int) (k : Nat) : ∀ j, cntP p fs k ≤ cntP p fs (k + j)
  | 0 => Nat.le_refl _
  | j + 1 => Nat.le_trans (cntP_mono p fs k j) (by show _ ≤ cntP p fs (k + j) + _; omega)
theorem cntP_pos (p : Int → Bool) (fs : List Int) (n k : Nat) (hk : k < n) (h : p (fs.getD k 0) = true) : 0 < cntP p fs n := by
  have h1 := cntP_mono p fs (k + 1) (n - (k + 1))
  rw [show k + 1 + (n - (k + 1)) = n by omega, cntP, if_pos h] at h1
  omega

set_option maxHeartbeats 1000000 in
theorem countW_any (fs : List Int) (v : Value) (K : Nat) (bound caps : Array Value) (p : Int → Bool) (w : World) (hn : fs.length ≤ 1048576) (h : Sl (Value.int .i64) 0 w v fs)
    (hent : ∀ args w, (callFunc K args).run Try.prog w = .ok (.enter K args) w)
    (hc : ∀ k w', k < fs.length → Below w.heap.size w w' → Calls Try.prog K (bound ++ #[.int .i64 (fs.getD k 0)] ++ caps) w' fun e w'' => e = .returned (.bool (p (fs.getD k 0))) ∧ Below w'.heap.size w' w'') :
    Calls Try.prog 140 #[v, .func (.func K) bound caps] w fun e w' => e = .returned (.int .i64 ((cntP p fs fs.length : Nat) : Int)) ∧ Below w.heap.size w w' := by
  have Hc := Lib.hid hc
  clear hc
  obtain ⟨q, cap, rfl, hf⟩ := h
  have Hf := Lib.hid hf
  clear hf
  have Hle := Lib.hid (cntP_le p fs)
  have Hst := Lib.hid (fun k => show cntP p fs (k + 1) = cntP p fs k + (if p (fs.getD k 0) = true then 1 else 0) from rfl)
  obtain ⟨n, hn1⟩ : ∃ n, n = fs.length := ⟨_, rfl⟩
  rw [← hn1] at hn Hf Hc ⊢
  clear hn1
  go_enter Try.func140, Try.ntmps140
  go_wp2
  go_loopw [5, 10] (fun c i wr => ∃ k : Nat, k ≤ n ∧ i = .int .i64 (k : Int) ∧ c = .int .i64 ((cntP p fs k : Nat) : Int) ∧ Hid (Below w.heap.size w wr)) (fun _ i _ => n - (intOf i).toNat)
  case atStart => exact ⟨0, Nat.zero_le _, rfl, rfl, Lib.hid (Below.refl _ _)⟩
  case round =>
    obtain ⟨k, hk, rfl, rfl, Hd⟩ := hrel
    have hsz := Hd.out.size
    have hle := Hle.out k
    by_cases hlt : k < n
    · have Hcall := Lib.hid (Hc.out k wr hlt Hd.out)
      obtain ⟨hcap, b, off, rfl, hbs, hcell⟩ := Hf.out (by omega)
      have c1 := cell_keep Hd.out (hcell k hlt)
      have hst := Hst.out k
      clear hcell
      generalize fs.getD k 0 = x at *
      cases hp : p x
      · rw [hp] at hst Hcall
        rw [if_neg Bool.false_ne_true, Nat.add_zero] at hst
        have Hst2 := Lib.hid hst
        clear hst hp
        go_wp2_with (refine (Hcall.out).mono ?_; rintro e w' ⟨rfl, hb2⟩; have Hb2 := Lib.hid hb2; clear hb2)
        go_roundw
        case rel => exact ⟨k + 1, by omega, by go_num, by rw [Hst2.out]; rfl, Lib.hid (Hd.out.trans (Hb2.out.mono hsz))⟩
        case measure => simp [intOf]; omega
      · rw [hp] at hst Hcall
        rw [if_pos rfl] at hst
        have Hst2 := Lib.hid hst
        clear hst hp
        generalize cntP p fs k = C at *
        go_wp2_with (refine (Hcall.out).mono ?_; rintro e w' ⟨rfl, hb2⟩; have Hb2 := Lib.hid hb2; clear hb2)
        go_roundw
        case rel => exact ⟨k + 1, by omega, by go_num, by rw [Hst2.out]; go_num, Lib.hid (Hd.out.trans (Hb2.out.mono hsz))⟩
        case measure => simp [intOf]; omega
    · obtain rfl : k = n := by omega
      go_wp2
      go_ret
      exact ⟨rfl, Hd.out⟩

theorem clo_within (x lo hi : Int) (B C : Nat) (w : World) (c1 : w.cell? ⟨B, 0, none⟩ = some (.int .i64 lo)) (c2 : w.cell? ⟨C, 0, none⟩ = some (.int .i64 hi)) :
    Calls Try.prog 141 #[.int .i64 x, .pointer (some ⟨B, 0, none⟩), .pointer (some ⟨C, 0, none⟩)] w fun e w' => e = .returned (.bool (!(decide (lo ≤ x) && decide (x ≤ hi)))) ∧ w = w' := by
  have H : Calls Try.prog 71 #[.int .i64 x, .int .i64 lo, .int .i64 hi] w fun e w' => e = .returned (.bool (decide (lo ≤ x) && decide (x ≤ hi))) ∧ w = w' := by
    by_cases h : lo ≤ x ∧ x ≤ hi
    · rw [decide_eq_true h.1, decide_eq_true h.2]; exact within_yes x lo hi w h.1 h.2
    · have e : (decide (lo ≤ x) && decide (x ≤ hi)) = false := by simpa using h
      rw [e]; exact within_no x lo hi w (by omega)
  generalize (decide (lo ≤ x) && decide (x ≤ hi)) = r at *
  have H := Lib.hid H
  go_enter Try.func141, Try.ntmps141
  go_wp2_with (refine (H.out).mono ?_; rintro e w' ⟨rfl, rfl⟩)
  go_ret
  exact ⟨rfl, rfl⟩

/-- all numbers of a list are within bounds -/
def allB (lo hi : Int) (fs : List Int) : Bool := (List.range fs.length).all fun k => decide (lo ≤ fs.getD k 0) && decide (fs.getD k 0 ≤ hi)
theorem allB_at {lo hi : Int} {fs : List Int} (h : allB lo hi fs = true) (k : Nat) (hk : k < fs.length) : lo ≤ fs.getD k 0 ∧ fs.getD k 0 ≤ hi := by
  have := List.all_eq_true.1 h k (List.mem_range.2 hk)
  simpa using this
theorem allB_of {lo hi : Int} {fs : List Int} (h : ∀ k, k < fs.length → lo ≤ fs.getD k 0 ∧ fs.getD k 0 ≤ hi) : allB lo hi fs = true :=
  List.all_eq_true.2 fun k hk => by have := h k (List.mem_range.1 hk); simpa using this
theorem allB_not {lo hi : Int} {fs : List Int} (k : Nat) (hk : k < fs.length) (h : ¬ (lo ≤ fs.getD k 0 ∧ fs.getD k 0 ≤ hi)) : allB lo hi fs = false := by
  cases e : allB lo hi fs
  · rfl
  · exact absurd (allB_at e k hk) h
theorem allB_cnt (lo hi : Int) (fs : List Int) : (((cntP (fun x => !(decide (lo ≤ x) && decide (x ≤ hi))) fs fs.length : Nat) : Int) == 0) = allB lo hi fs := by
  cases e : allB lo hi fs
  · have : ¬ ∀ k, k < fs.length → lo ≤ fs.getD k 0 ∧ fs.getD k 0 ≤ hi := fun h => by rw [allB_of h] at e; cases e
    obtain ⟨k, hk⟩ := Classical.not_forall.1 this
    obtain ⟨hk1, hk2⟩ := Classical.not_imp.1 hk
    have h2 := cntP_pos (fun x => !(decide (lo ≤ x) && decide (x ≤ hi))) fs fs.length k hk1 (by simp only [Bool.not_eq_true', Bool.and_eq_false_iff, decide_eq_false_iff_not]; omega)
    rw [beq_eq_false_iff_ne]; omega
  · rw [cntP_zero _ _ _ (fun i hi' => by have := allB_at e i hi'; simpa using this)]; rfl
set_option maxHeartbeats 1000000 in
theorem areW_any (fs : List Int) (v : Value) (lo hi : Int) (w : World) (hn : fs.length ≤ 1048576) (h : Sl (Value.int .i64) 0 w v fs) :
    Calls Try.prog 85 #[v, .int .i64 lo, .int .i64 hi] w fun e w' => e = .returned (.bool (allB lo hi fs)) ∧ Below w.heap.size w w' := by
  have hb0 := ((Below.refl _ w).alloc (Nat.le_refl _) (.cells #[.int .i64 lo] 2)).alloc (by simp) (.cells #[.int .i64 hi] 2)
  have H := Lib.hid (countW_any fs v 141 #[] #[.pointer (some ⟨w.heap.size, 0, none⟩), .pointer (some ⟨w.heap.size + 1, 0, none⟩)] (fun x => !(decide (lo ≤ x) && decide (x ≤ hi))) ((w.alloc (.cells #[.int .i64 lo] 2)).alloc (.cells #[.int .i64 hi] 2)) hn (h.later hb0)
    (run_enter Try.func141 (by kernel_rfl) (by kernel_rfl))
    (fun k w' hk hd => (clo_within (fs.getD k 0) lo hi w.heap.size (w.heap.size + 1) w' (cell_keep hd (by rw [World.cell?_alloc_past _ _ _ (by simp)]; exact World.cell?_alloc_at _ _ _ _ rfl)) (cell_keep hd (World.cell?_alloc_at _ _ _ _ (by simp)))).mono fun e w'' ⟨h1, h2⟩ => ⟨h1, by rw [h2]; exact Below.refl _ _⟩))
  have Hb0 := Lib.hid hb0
  have E := Lib.hid (allB_cnt lo hi fs)
  clear hb0 h
  generalize cntP (fun x => !(decide (lo ≤ x) && decide (x ≤ hi))) fs fs.length = C at *
  generalize allB lo hi fs = R at *
  go_enter Try.func85, Try.ntmps85
  go_wp2_with (refine (H.out).mono ?_; rintro e w' ⟨rfl, hb2⟩; have Hb2 := Lib.hid (Hb0.out.trans (hb2.mono Hb0.out.size)); clear hb2)
  go_ret
  exact ⟨ret_bool E.out, Hb2.out⟩

theorem nan_any (x : Int) (w : World) : Calls Try.prog 177 #[.int .i64 x] w fun e w' => e = .returned (.bool false) ∧ w = w' := by
  go_enter Try.func177, Try.ntmps177
  go_wp2
  go_ret
  exact ⟨ret_bool (by simp), rfl⟩
theorem less_any (x y : Int) (w : World) : Calls Try.prog 187 #[.int .i64 x, .int .i64 y] w fun e w' => e = .returned (.bool (decide (x < y))) ∧ w = w' := by
  have H := Lib.hid (fun z => nan_any x z)
  go_enter Try.func187, Try.ntmps187
  go_wp2_with (refine (H.out _).mono ?_; rintro e w' ⟨rfl, rfl⟩)
  go_ret
  exact ⟨rfl, rfl⟩

/-- the list never descends -/
def ascB (fs : List Int) : Bool := (List.range (fs.length - 1)).all fun k => decide (fs.getD k 0 ≤ fs.getD (k + 1) 0)
theorem ascB_at {fs : List Int} (h : ascB fs = true) (k : Nat) (hk : k + 1 < fs.length) : fs.getD k 0 ≤ fs.getD (k + 1) 0 := by
  have := List.all_eq_true.1 h k (List.mem_range.2 (by omega))
  simpa using this
theorem ascB_of {fs : List Int} (h : ∀ k, k + 1 < fs.length → fs.getD k 0 ≤ fs.getD (k + 1) 0) : ascB fs = true :=
  List.all_eq_true.2 fun k hk => by have := h k (by have := List.mem_range.1 hk; omega); simpa using this
theorem ascB_not {fs : List Int} (k : Nat) (hk : k + 1 < fs.length) (h : fs.getD (k + 1) 0 < fs.getD k 0) : ascB fs = false := by
  cases e : ascB fs
  · rfl
  · have := ascB_at e k hk; omega
