/- Contracts: a row that a function fills (deckBy), whatever function of places it is handed; new decks. -/
import Derived.Test.YtodmaomngpnboaaDk
import Derived.Maps.AppendAt
set_option linter.unusedVariables false
namespace Go.Proofs.Ytodmaomngpnboaa
open Go.RowKit

theorem Sw.of_owns {α : Type} {mk : α → Value} {d : α} {w : World} {base : Nat} {e : TypeId} {v : Value} {fs : List α} {n : Nat} (h : w.ownsRow base e 1 v n (fs.map mk)) (hn : fs.length = n) : Sw mk d w v fs base w.heap.size := by
  subst hn
  have h0 := h
  rcases h.2 with ⟨rfl, h'⟩ | ⟨g, cap, cur, rfl, hb, hg, hnc, _⟩
  · obtain rfl : fs = [] := List.eq_nil_of_length_eq_zero h'
    exact Sw.nil _ _ _ _ _ _ _
  · have hlt := (h.lt g rfl)
    refine ⟨_, cap, rfl, fun _ => ⟨hnc, g, 0, rfl, hb, hlt.2, Nat.le_refl _, fun i hi => ⟨?_, ?_⟩⟩⟩
    · rw [Nat.zero_add, h0.cellAt i (by omega), List.getElem?_map, List.getElem?_eq_getElem hi, getD_lt fs d i hi]
      rfl
    · rw [Nat.zero_add]; exact h0.frozenAt i
/-- the row of a table after k rounds -/
def filled (n : Nat) (g : Nat → Int) (k : Nat) : List Int := tab k g ++ List.replicate (n - k) 0
theorem filled_len (n : Nat) (g : Nat → Int) (k : Nat) (h : k ≤ n) : (filled n g k).length = n := by simp [filled, tab]; omega
theorem filled_zero (n : Nat) (g : Nat → Int) : filled n g 0 = List.replicate n 0 := by simp [filled, tab]
theorem filled_set (n : Nat) (g : Nat → Int) (k : Nat) (h : k < n) : (filled n g k).set k (g k) = filled n g (k + 1) := by
  unfold filled
  have e : n - k = (n - (k + 1)) + 1 := by omega
  rw [List.set_append_right _ _ (by rw [tab_len]; exact Nat.le_refl _), tab_len, Nat.sub_self, e, List.replicate_succ, tab_succ, List.append_assoc]
  rfl
theorem filled_done (n : Nat) (g : Nat → Int) : filled n g n = tab n g := by simp [filled]
theorem filled_at (n : Nat) (g : Nat → Int) (k : Nat) (h : k < n) : (filled n g k)[k]? = some 0 := by
  unfold filled
  rw [List.getElem?_append_right (by rw [tab_len]; exact Nat.le_refl _), tab_len, Nat.sub_self, List.getElem?_replicate, if_pos (by omega)]

set_option maxHeartbeats 1000000 in
theorem deckBy_any (n K : Nat) (caps : Array Value) (g : Nat → Int) (w : World) (hn : n ≤ 1048576)
    (hent : ∀ args w, (callFunc K args).run Try.prog w = .ok (.enter K args) w)
    (hc : ∀ k w', k < n → Below w.heap.size w w' → Calls Try.prog K (#[.int .i64 (k : Int)] ++ caps) w' fun e w'' => e = .returned (.int .i64 (g k)) ∧ Drawn w' w'') :
    Calls Try.prog 165 #[.int .i64 (n : Int), .func (.func K) #[] caps] w fun e w' => ∃ r, e = .returned r ∧ Sw (Value.int .i64) 0 w' r (tab n g) w.heap.size w'.heap.size ∧ Below w.heap.size w w' := by
  obtain ⟨i0, hi, hz0, hz1, hz2⟩ := info_parts (show (Try.prog.info? 2).map (fun i => (i.zero, i.size, i.bytes)) = some (some (.int .i64 0), 1, 8) by kernel_rfl)
  have Hc := Lib.hid hc
  clear hc
  go_enter Try.func165, Try.ntmps165
  go_wp2_with (at_make; refine wpList_make_full _ rfl _ _ 22 rfl w.heap.size 2 i0 (.int .i64 0) 1 (by kernel_rfl) hi hz0 hz1 .i64 .i64 n n n rfl rfl rfl rfl (by rw [hz2]; omega) (by unfold maxLen; omega) (Nat.le_refl _) ?_; intro w1 hown hgrow)
  have hbel : Below w.heap.size w w1 := (Below.refl _ w).grown hgrow (Nat.le_refl _) (by simp)
  have Hown := Lib.hid hown
  have Hbel := Lib.hid hbel
  clear hown hbel hgrow
  go_loopw [10] (fun i wr => ∃ k : Nat, k ≤ n ∧ i = .int .i64 k ∧ wr.ownsRow w.heap.size 2 1 (.slice (some ⟨w.heap.size, 0, none⟩) n n) n ((filled n g k).map (Value.int .i64)) ∧ Below w.heap.size w wr) (fun i _ => n - (intOf i).toNat)
  case atStart =>
    refine ⟨0, Nat.zero_le _, rfl, ?_, Hbel.out⟩
    have h0 := Hown.out
    have e : (madeCells (Value.int .i64 0).cells (n * 1)).toList = (filled n g 0).map (Value.int .i64) := by
      rw [filled_zero, Nat.mul_one, List.map_replicate]
      exact made1 _ n
    rw [e] at h0
    exact h0
  case round =>
    obtain ⟨k, hk, rfl, hown, hb⟩ := hrel
    have Hown := Lib.hid hown
    have Hb := Lib.hid hb
    have hsz := hb.size
    clear hown hb
    by_cases hlt : k < n
    · have Hcall := Lib.hid (Hc.out k wr hlt Hb.out)
      have c2 : wr.cell? ⟨w.heap.size, k, none⟩ = some (.int .i64 0) := by
        rw [Hown.out.cellAt k (by omega), List.getElem?_map, filled_at n g k hlt]; rfl
      have c3 := Hown.out.frozenAt k
      obtain ⟨hs1, _⟩ := Hown.out.stored k (.int .i64 (g k))
      rw [← List.map_set, filled_set n g k hlt] at hs1
      have Hs1 := Lib.hid hs1
      clear hs1
      go_wp2_with (refine (Hcall.out).mono ?_; rintro e w' ⟨rfl, m, rfl⟩)
      go_roundw
      case rel => exact ⟨k + 1, by omega, by go_num, Hs1.out, below_drewN (Hb.out.setCell (Nat.le_refl _) _) _⟩
      case measure => simp [intOf]; omega
    · obtain rfl : k = n := by omega
      go_wp2
      go_ret
      have h0 := Hown.out
      rw [filled_done] at h0
      exact ⟨_, rfl, Sw.of_owns h0 (tab_len _ _), Hb.out⟩
theorem run_enter {P : Program} {f : FuncId} {fn : Func} (hf : P.funcs[f]? = some fn) (hname : (fn.name == "runtime.NumGoroutine") = false) (hb : fn.body.isSome = true) (args : Array Value) (w : World) :
    (callFunc f args).run P w = .ok (.enter f args) w := by
  obtain ⟨c, hb⟩ := Option.isSome_iff_exists.1 hb
  have h1 : fn.name ≠ "runtime.NumGoroutine" := by simpa using hname
  simp [callFunc, hf, h1, hb]

/-! ### new decks -/
theorem clo_new (k : Nat) (w : World) : Calls Try.prog 166 #[.int .i64 (k : Int)] w fun e w' => e = .returned (.int .i64 (k : Int)) ∧ Drawn w w' := by
  go_enter Try.func166, Try.ntmps166
  go_wp2
  go_ret
  exact ⟨rfl, Drawn.refl _⟩
theorem new_impl_yes (n : Nat) (w : World) (h1 : 1 ≤ n) (h2 : n ≤ 52) :
    Calls Try.prog 122 #[.int .i64 (n : Int)] w fun e w' => ∃ r, e = .returned (.tuple #[r, .bool true]) ∧ Sw (Value.int .i64) 0 w' r (tab n fun k => (k : Int)) w.heap.size w'.heap.size ∧ Below w.heap.size w w' := by
  have Hd := Lib.hid (deckBy_any n 166 #[] (fun k => (k : Int)) w (by omega) (run_enter Try.func166 (by kernel_rfl) (by kernel_rfl)) (fun k w' _ _ => clo_new k w'))
  go_enter Try.func122, Try.ntmps122
  go_wp2_with (first | (go_at_call 152; refine (size_yes _ _ (by omega) (by omega)).mono ?_; rintro e w' ⟨rfl, rfl⟩) | (go_at_call 165; refine Hd.out.mono ?_; rintro e w1 ⟨r, rfl, hs, hb⟩; have Hs := Lib.hid hs; have Hb := Lib.hid hb; clear hs hb))
  go_ret2
  exact ⟨_, rfl, Hs.out, Hb.out⟩
theorem new_impl_no (a : Int) (w : World) (h : a < 1 ∨ 52 < a) :
    Calls Try.prog 122 #[.int .i64 a] w fun e w' => e = .returned (.tuple #[.slice none 0 0, .bool false]) ∧ w = w' := by
  go_enter Try.func122, Try.ntmps122
  go_wp2_with (first | (go_at_call 152; refine (size_no _ _ h).mono ?_; rintro e w' ⟨rfl, rfl⟩))
  go_ret2
  exact ⟨rfl, rfl⟩
theorem impl_NewDeck (a : Int) (al : -9223372036854775808 ≤ a) (au : a ≤ 9223372036854775807) (w : World) :
    Calls Try.prog 122 #[.int .i64 a] w fun e w' => ∃ r, e = .returned (.tuple #[r, .bool (ok_NewDeck a)]) ∧ Sw (Value.int .i64) 0 w' r (res_NewDeck a) w.heap.size w'.heap.size ∧ Below w.heap.size w w' := by
  by_cases h : 1 ≤ a ∧ a ≤ 52
  · obtain ⟨e1, e2⟩ := new_yes a h.1 h.2
    rw [e1, e2]
    obtain ⟨n, rfl⟩ : ∃ n : Nat, a = n := ⟨a.toNat, by omega⟩
    exact new_impl_yes n w (by omega) (by omega)
  · obtain ⟨e1, e2⟩ := new_no a (by omega)
    rw [e1, e2]
    exact (new_impl_no a w (by omega)).mono fun e w' ⟨he, hw⟩ => ⟨_, he, Sw.nil _ _ _ _ _ _ _, by subst hw; exact Below.refl _ _⟩

/-! ### turned decks -/
