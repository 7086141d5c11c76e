/- Contracts: decks, in both texts. -/
import Derived.Test.YtodmaomngpnboaaLk
import Derived.Test.YtodmaomngpnboaaDq
import Derived.Deep.QuietTactic
import Derived.BigQuiet
import Derived.StillTailTactics
import Derived.Deep.RegionWith
import Derived.Outline
set_option linter.unusedVariables false
namespace Go.Proofs.Ytodmaomngpnboaa
open Go.RowKit

theorem Sl.take {w : World} {p : Option Addr} {n cap : Nat} {fs : List Int} (h : Sl (Value.int .i64) 0 w (.slice p n cap) fs) (k : Nat) (hk : k ≤ fs.length) (c : Nat) (hkc : k ≤ c) : Sl (Value.int .i64) 0 w (.slice p k c) (fs.take k) := by
  obtain ⟨p', cap', e, h⟩ := h
  cases e
  refine ⟨p, c, by rw [List.length_take, Nat.min_eq_left hk], fun h0 => ?_⟩
  rw [List.length_take, Nat.min_eq_left hk] at h0
  obtain ⟨hcap, b, off, rfl, hb, hc⟩ := h (by omega)
  refine ⟨by rw [List.length_take, Nat.min_eq_left hk]; exact hkc, b, off, rfl, hb, fun i hi => ?_⟩
  rw [List.length_take, Nat.min_eq_left hk] at hi
  rw [hc i (by omega)]
  simp [List.getD, hi]

theorem quiet_same {P : Program} {f : FuncId} {args : Array Value} {w : World} {n : Nat} {v : Value} (h : Calls P f args (w.drewN n) fun e w' => e = .returned v ∧ w.drewN n = w') :
    Calls P f args (w.drewN n) fun e w'' => e = .returned v ∧ ∃ m, w'' = w.drewN m := h.mono fun _ _ ⟨he, hm⟩ => ⟨he, n, hm.symm⟩

theorem in_yes (n lo hi : Int) (w : World) (h1 : lo ≤ n) (h2 : n ≤ hi) : Calls Try.prog 68 #[.int .i64 n, .int .i64 lo, .int .i64 hi] w fun e w' => e = .returned (.bool true) ∧ w = w' := by
  go_enter Try.func68, Try.ntmps68
  go_wp2
  go_ret
  exact ⟨rfl, rfl⟩
theorem in_no (n lo hi : Int) (w : World) (h : n < lo ∨ hi < n) : Calls Try.prog 68 #[.int .i64 n, .int .i64 lo, .int .i64 hi] w fun e w' => e = .returned (.bool false) ∧ w = w' := by
  by_cases h1 : n < lo
  · clear h
    have d : decide (lo ≤ n) = false := decide_eq_false (by omega)
    go_enter Try.func68, Try.ntmps68
    go_wp2
    go_ret
    exact ⟨rfl, rfl⟩
  · have h2 : hi < n := by omega
    have h1' : lo ≤ n := by omega
    clear h
    have d : decide (n ≤ hi) = false := decide_eq_false (by omega)
    go_enter Try.func68, Try.ntmps68
    go_wp2
    go_ret
    exact ⟨rfl, rfl⟩

theorem has_any (fs : List Int) (x : Int) (v : Value) (w : World) (hn : fs.length ≤ 1048576) (h : Sl (Value.int .i64) 0 w v fs) :
    Calls Try.prog 145 #[v, .int .i64 x] w fun e w' => e = .returned (.bool (fs.contains x)) ∧ Drawn w w' := by
  obtain ⟨p, cap, rfl, hf⟩ := h
  have Hf := Lib.hid hf
  clear hf
  generalize hlen : fs.length = n at *
  have Hlen := Lib.hid hlen
  clear hlen
  go_enter Try.func145, Try.ntmps145
  go_wp2
  go_loopw [5] (fun i wr => ∃ k q : Nat, k ≤ n ∧ i = .int .i64 k ∧ Hid (∀ j, j < k → fs.getD j 0 ≠ x) ∧ wr = w.drewN q) (fun i _ => n - (intOf i).toNat)
  case atStart => exact ⟨0, 0, Nat.zero_le _, rfl, fun j hj => absurd hj (by omega), rfl⟩
  case round =>
    obtain ⟨k, dn, hk, rfl, hp, rfl⟩ := hrel
    by_cases hlt : k < n
    · obtain ⟨hcap, b, off, rfl, hbs, hc⟩ := Hf.out (by omega)
      have c1 := hc k hlt
      clear hc
      generalize hg : fs.getD k 0 = y at *
      have Hg := Lib.hid hg
      clear hg
      by_cases he : y = x
      · obtain rfl := he
        have d : (y == y) = true := by simp
        go_wp2
        go_ret
        refine ⟨ret_bool ?_, _, rfl⟩
        rw [eq_comm, List.contains_iff_mem, ← Hg.out, getD_lt fs 0 k (by rw [Hlen.out]; exact hlt)]
        exact List.getElem_mem _
      · have d : (y == x) = false := by simpa using he
        have He := Lib.hid he
        clear he
        go_wp2
        go_roundw
        case rel => exact ⟨k + 1, _, by omega, by go_num, fun j hj => by
          by_cases e : j = k
          · subst e; rw [Hg.out]; exact He.out
          · exact hp.out j (by omega), rfl⟩
        case measure => simp [intOf]; omega
    · obtain rfl : k = n := by omega
      go_wp2
      go_ret
      refine ⟨ret_bool ?_, _, rfl⟩
      rw [eq_comm, Bool.eq_false_iff]
      intro hc
      rw [List.contains_iff_mem] at hc
      obtain ⟨i, hi, e⟩ := List.getElem_of_mem hc
      refine hp.out i (by rw [← Hlen.out]; exact hi) ?_
      rw [getD_lt fs 0 i hi, e]

set_option maxHeartbeats 1000000 in
theorem orders_any (fs : List Int) (v : Value) (w : World) (hn : fs.length ≤ 1048576) (h : Sl (Value.int .i64) 0 w v fs) :
    Calls Try.prog 105 #[v, .int .i64 (fs.length : Int)] w fun e w' => e = .returned (.bool (ordB fs)) ∧ Drawn w w' := by
  have Hs := Lib.hid h
  obtain ⟨p, cap, rfl, hf⟩ := h
  have Hf := Lib.hid hf
  clear hf
  generalize hlen : fs.length = n at *
  have Hlen := Lib.hid hlen
  clear hlen
  have d0 : ((n : Int) != (n : Int)) = false := by simp
  go_enter Try.func105, Try.ntmps105
  go_wp2
  go_loopw [5] (fun i wr => ∃ k : Nat, k ≤ n ∧ i = .int .i64 k ∧ Hid (∀ j, j < k → goodAt fs j = true) ∧ Drawn w wr) (fun i _ => n - (intOf i).toNat)
  case atStart => exact ⟨0, Nat.zero_le _, rfl, fun j hj => absurd hj (by omega), Drawn.refl _⟩
  case round =>
    obtain ⟨k, hk, rfl, hp, hd⟩ := hrel
    have Hd := Lib.hid hd
    clear hd
    by_cases hlt : k < n
    · obtain ⟨hcap, b, off, rfl, hbs, hc⟩ := Hf.out (by omega)
      have Hs' := Lib.hid ((Hs.out.take k (by rw [Hlen.out]; omega) cap (by omega)).drawn Hd.out)
      have c1 : wr.cell? ⟨b, off + k, none⟩ = some (.int .i64 (fs.getD k 0)) := by rw [Hd.out.cell]; exact hc k hlt
      clear hc
      have hgn := goodAt_neg fs k
      have hgb := goodAt_big fs k
      have hgi := goodAt_in fs k
      have hob := ordB_bad fs k (by rw [Hlen.out]; exact hlt)
      rw [Hlen.out] at hgb hgi
      have hhas := has_any (fs.take k) (fs.getD k 0)
      generalize fs.getD k 0 = y at *
      by_cases hx : y < 0 ∨ (n : Int) ≤ y
      · have Hbad : Hid (ordB fs = false) := hob (by
          rcases hx with h | h
          · exact hgn h
          · exact hgb h)
        clear hgn hgb hgi hob hhas
        have Hin := Lib.hid (fun z => in_no y 0 ((n : Int) - 1) z (by omega))
        have hw1 : IntKind.i64.wrap ((n : Int) - 1) = (n : Int) - 1 := IntWalk.i64_in _ (by omega)
        go_wp2_with fail
        go_quiet ((go_at_call 68; exact quiet_same (Hin.out _)))
        clear hw1
        go_wp2
        go_ret
        exact ⟨ret_bool Hbad.out.symm, Hd.out.more _⟩
      · have Hgood := Lib.hid (hgi (by omega) (by omega))
        have Hob := Lib.hid hob
        have Hhas := Lib.hid hhas
        clear hgn hgb hgi hob hhas
        cases hB : (fs.take k).contains y
        all_goals
          have HB := Lib.hid hB
          clear hB
          have Hh := Lib.hid (fun z => Hhas.out _ (wr.drewN z) (by rw [List.length_take]; omega) (Hs'.out.drewN z))
          rw [HB.out] at Hh
          have Hin := Lib.hid (fun z => in_yes y 0 ((n : Int) - 1) z (by omega) (by omega))
          have hw1 : IntKind.i64.wrap ((n : Int) - 1) = (n : Int) - 1 := IntWalk.i64_in _ (by omega)
          go_wp2_with fail
          go_quiet ((first | (go_at_call 68; exact quiet_same (Hin.out _)) | (go_at_call 145; exact Calls.quiet_of (Hh.out _))))
          clear hw1
          go_wp2
        · go_roundw
          case rel => exact ⟨k + 1, by omega, by go_num, fun j hj => by
            by_cases e : j = k
            · subst e; rw [Hgood.out, HB.out]; rfl
            · exact hp.out j (by omega), Hd.out.more _⟩
          case measure => simp [intOf]; omega
        · go_ret
          exact ⟨ret_bool (Hob.out (by rw [Hgood.out, HB.out]; rfl)).symm, Hd.out.more _⟩
    · obtain rfl : k = n := by omega
      go_wp2
      go_ret
      exact ⟨ret_bool (ordB_good fs (fun j hj => hp.out j (by rw [← Hlen.out]; exact hj))).symm, Hd.out⟩

theorem deck_any (fs : List Int) (v : Value) (w : World) (hn : fs.length ≤ 1048576) (h : Sl (Value.int .i64) 0 w v fs) :
    Calls Try.prog 101 #[v] w fun e w' => e = .returned (.bool (deckB fs)) ∧ Drawn w w' := by
  have Hs := Lib.hid h
  obtain ⟨p, cap, rfl, hf⟩ := h
  clear hf
  by_cases h1 : fs.length < 1
  · have Hno := Lib.hid (deckB_short fs (.inl h1))
    have d1 : decide (1 ≤ (fs.length : Int)) = false := decide_eq_false (by omega)
    go_enter Try.func101, Try.ntmps101
    go_wp2
    go_ret
    exact ⟨ret_bool Hno.out.symm, Drawn.refl _⟩
  · have d1 : decide (1 ≤ (fs.length : Int)) = true := decide_eq_true (by omega)
    by_cases h2 : 52 < fs.length
    · have Hno := Lib.hid (deckB_short fs (.inr h2))
      have d2 : decide ((fs.length : Int) ≤ 52) = false := decide_eq_false (by omega)
      go_enter Try.func101, Try.ntmps101
      go_wp2
      go_ret
      exact ⟨ret_bool Hno.out.symm, Drawn.refl _⟩
    · have Hyes := Lib.hid (deckB_ord fs (by omega) (by omega))
      have d2 : decide ((fs.length : Int) ≤ 52) = true := decide_eq_true (by omega)
      go_enter Try.func101, Try.ntmps101
      go_wp2_with (go_at_call 105; refine (orders_any fs _ _ (by omega) Hs.out).mono ?_; rintro e w' ⟨rfl, hd⟩; have Hd := Lib.hid hd; clear hd)
      go_ret
      exact ⟨ret_bool Hyes.out.symm, Hd.out⟩

theorem size_yes (n : Int) (w : World) (h1 : 1 ≤ n) (h2 : n ≤ 52) : Calls Try.prog 152 #[.int .i64 n] w fun e w' => e = .returned (.bool true) ∧ w = w' := by
  go_enter Try.func152, Try.ntmps152
  go_wp2
  go_ret
  exact ⟨rfl, rfl⟩
theorem size_no (n : Int) (w : World) (h : n < 1 ∨ 52 < n) : Calls Try.prog 152 #[.int .i64 n] w fun e w' => e = .returned (.bool false) ∧ w = w' := by
  by_cases h1 : n < 1
  · clear h
    have d : decide (1 ≤ n) = false := decide_eq_false (by omega)
    go_enter Try.func152, Try.ntmps152
    go_wp2
    go_ret
    exact ⟨rfl, rfl⟩
  · have h2 : 52 < n := by omega
    have h1' : 1 ≤ n := by omega
    clear h
    have d : decide (n ≤ 52) = false := decide_eq_false (by omega)
    go_enter Try.func152, Try.ntmps152
    go_wp2
    go_ret
    exact ⟨rfl, rfl⟩

set_option maxHeartbeats 1000000 in
theorem order_any (fs : List Int) (v : Value) (w : World) (hn : fs.length ≤ 1048576) (h : Sl (Value.int .i64) 0 w v fs) :
    Calls Try.prog 106 #[v] w fun e w' => e = .returned (.bool (ordB fs)) ∧ Below w.heap.size w w' := by
  obtain ⟨p, cap, rfl, hf⟩ := h
  obtain ⟨i0, hi, hz0, hz1, hz2⟩ := info_parts (show (Try.prog.info? 4).map (fun i => (i.zero, i.size, i.bytes)) = some (some (.bool false), 1, 1) by kernel_rfl)
  have Hf := Lib.hid hf
  clear hf
  generalize hlen : fs.length = n at *
  have Hlen := Lib.hid hlen
  clear hlen
  go_enter Try.func106, Try.ntmps106
  go_wp2_with (at_make; refine wpList_make_full _ rfl _ _ 127 rfl w.heap.size 4 i0 (.bool false) 1 (by kernel_rfl) hi hz0 hz1 .i64 .i64 n n n rfl rfl rfl rfl (by rw [hz2]; omega) (by unfold maxLen; omega) (Nat.le_refl _) ?_; intro w1 hown hgrow)
  have hbel : Below w.heap.size w w1 := (Below.refl _ w).grown hgrow (Nat.le_refl _) (by simp)
  have Hown := Lib.hid hown
  have Hbel := Lib.hid hbel
  clear hown hbel hgrow
  have hsn : ∀ k, k < n → 0 ≤ fs.getD k 0 → fs.getD k 0 < (n : Int) → (seenR fs k)[(fs.getD k 0).toNat]? = some ((fs.take k).contains (fs.getD k 0)) := fun k _ h0 h1 => seenR_at fs k _ h0 (by rw [Hlen.out]; exact h1)
  have Hsn := Lib.hid hsn
  clear hsn
  go_loopw [11] (fun i wr => ∃ k : Nat, k ≤ n ∧ i = .int .i64 k ∧ Hid (∀ j, j < k → goodAt fs j = true) ∧ wr.ownsRow w.heap.size 4 1 (.slice (some ⟨w.heap.size, 0, none⟩) n n) n ((seenR fs k).map Value.bool) ∧ Below w.heap.size w wr) (fun i _ => n - (intOf i).toNat)
  case atStart =>
    refine ⟨0, Nat.zero_le _, rfl, fun j hj => absurd hj (by omega), ?_, Hbel.out⟩
    have h0 := Hown.out
    have e : (madeCells (Value.bool false).cells (n * 1)).toList = (seenR fs 0).map Value.bool := by
      rw [seenR_zero, Hlen.out, Nat.mul_one, List.map_replicate]
      exact made1 _ n
    rw [e] at h0
    exact h0
  case round =>
    obtain ⟨k, hk, rfl, hp, hown, hb⟩ := hrel
    by_cases hlt : k < n
    · obtain ⟨hcap, b, off, rfl, hbs, hc⟩ := Hf.out (by omega)
      have c1 : wr.cell? ⟨b, off + k, none⟩ = some (.int .i64 (fs.getD k 0)) := by rw [hb.cell hbs]; exact hc k hlt
      clear hc
      have hgn := goodAt_neg fs k
      have hgb := goodAt_big fs k
      have hgi := goodAt_in fs k
      have hob := ordB_bad fs k (by rw [Hlen.out]; exact hlt)
      have hsn := Hsn.out k hlt
      have hset := seenR_set fs k (by rw [Hlen.out]; exact hlt)
      rw [Hlen.out] at hgb hgi hset
      generalize fs.getD k 0 = y at *
      have Hown := Lib.hid hown
      have Hb := Lib.hid hb
      have hsz := hb.size
      clear hown hb
      by_cases hy0 : y < 0
      · have Hbad := Lib.hid (hob (hgn hy0))
        clear hgn hgb hgi hob hsn hset
        have d1 : decide (y < 0) = true := decide_eq_true hy0
        go_wp2
        go_ret
        exact ⟨ret_bool Hbad.out.symm, Hb.out⟩
      · by_cases hyn : (n : Int) ≤ y
        · have Hbad := Lib.hid (hob (hgb hyn))
          clear hgn hgb hgi hob hsn hset
          have d1 : decide (y < 0) = false := decide_eq_false hy0
          have d2 : decide ((n : Int) ≤ y) = true := decide_eq_true hyn
          go_wp2
          go_ret
          exact ⟨ret_bool Hbad.out.symm, Hb.out⟩
        · have d1 : decide (y < 0) = false := decide_eq_false hy0
          have d2 : decide ((n : Int) ≤ y) = false := decide_eq_false hyn
          have h0 : 0 ≤ y := by omega
          have h1 : y < n := by omega
          have Hgood := Lib.hid (hgi h0 h1)
          have Hset := Lib.hid (hset h0 h1)
          have Hob := Lib.hid hob
          have c2 : wr.cell? ⟨w.heap.size, y.toNat, none⟩ = some (.bool ((fs.take k).contains y)) := by
            rw [Hown.out.cellAt y.toNat (by omega), List.getElem?_map, hsn h0 h1]; rfl
          have c3 := Hown.out.frozenAt y.toNat
          clear hgn hgb hgi hob hsn hset
          cases hB : (fs.take k).contains y
          all_goals
            have HB := Lib.hid hB
            rw [hB] at c2
            clear hB
          · obtain ⟨hs1, _⟩ := Hown.out.stored y.toNat (.bool true)
            rw [← List.map_set, Hset.out] at hs1
            have Hs1 := Lib.hid hs1
            clear hs1
            go_wp2
            go_roundw
            case rel => exact ⟨k + 1, by omega, by go_num, fun j hj => by
              by_cases e : j = k
              · subst e; rw [Hgood.out, HB.out]; rfl
              · exact hp.out j (by omega), Hs1.out, Hb.out.setCell (Nat.le_refl _) _⟩
            case measure => simp [intOf]; omega
          · go_wp2
            go_ret
            exact ⟨ret_bool (Hob.out (by rw [Hgood.out, HB.out]; rfl)).symm, Hb.out⟩
    · obtain rfl : k = n := by omega
      have Hb := Lib.hid hb
      clear hown hb
      go_wp2
      go_ret
      exact ⟨ret_bool (ordB_good fs (fun j hj => hp.out j (by rw [← Hlen.out]; exact hj))).symm, Hb.out⟩

theorem deck_impl (fs : List Int) (v : Value) (w : World) (hn : fs.length ≤ 1048576) (h : Sl (Value.int .i64) 0 w v fs) :
    Calls Try.prog 102 #[v] w fun e w' => e = .returned (.bool (deckB fs)) ∧ Below w.heap.size w w' := by
  have Hs := Lib.hid h
  obtain ⟨p, cap, rfl, hf⟩ := h
  clear hf
  by_cases hl : 1 ≤ fs.length ∧ fs.length ≤ 52
  · obtain ⟨h1, h2⟩ := hl
    have Hyes := Lib.hid (deckB_ord fs h1 h2)
    go_enter Try.func102, Try.ntmps102
    go_wp2_with (first | (go_at_call 152; refine (size_yes _ _ (by omega) (by omega)).mono ?_; rintro e w' ⟨rfl, rfl⟩) | (go_at_call 106; refine (order_any fs _ _ hn Hs.out).mono ?_; rintro e w' ⟨rfl, hb⟩; have Hb := Lib.hid hb; clear hb))
    go_ret
    exact ⟨ret_bool Hyes.out.symm, Hb.out⟩
  · have Hno := Lib.hid (deckB_short fs (by omega))
    have hl' : (fs.length : Int) < 1 ∨ 52 < (fs.length : Int) := by omega
    clear hl
    go_enter Try.func102, Try.ntmps102
    go_wp2_with (first | (go_at_call 152; refine (size_no _ _ hl').mono ?_; rintro e w' ⟨rfl, rfl⟩))
    go_ret
    exact ⟨ret_bool Hno.out.symm, Below.refl _ _⟩

def ok_IsDeck (fs : List Int) : Bool := deckB fs
theorem impl_IsDeck (fs : List Int) (v : Value) (w : World) (hn : fs.length ≤ 1048576) (h : Sl (Value.int .i64) 0 w v fs) :
    Calls Try.prog 102 #[v] w fun e w' => e = .returned (.bool (deckB fs)) ∧ Below w.heap.size w w' := deck_impl fs v w hn h
end Go.Proofs.Ytodmaomngpnboaa
