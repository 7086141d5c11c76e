/- Contracts: lists of Tile compared, in both texts. -/
import Derived.Test.YtfipcpbibmhjoaaSa
import Derived.Test.YtfipcpbibmhjoaaLk
import Derived.BigQuiet
set_option linter.unusedVariables false
namespace Go.Proofs.Ytfipcpbibmhjoaa
open Go.RowKit
def sameTiles (n m : Nat) (fs gs : List Int) : Bool := decide (n = m) && (List.range (n * 2)).all (fun i => decide (fs.getD i 0 = gs.getD i 0))
theorem sameTiles_not {n m : Nat} {fs gs : List Int} (i : Nat) (hi : i < n * 2) (h : ¬ fs.getD i 0 = gs.getD i 0) : sameTiles n m fs gs = false := by
  unfold sameTiles
  cases e : (List.range (n * 2)).all (fun i => decide (fs.getD i 0 = gs.getD i 0)) with
  | false => simp
  | true =>
    have := of_decide_eq_true (List.all_eq_true.1 e i (List.mem_range.2 hi))
    exact absurd this h
theorem sameTiles_of {n : Nat} {fs gs : List Int} (h : ∀ i, i < n * 2 → fs.getD i 0 = gs.getD i 0) : sameTiles n n fs gs = true := by
  unfold sameTiles
  rw [decide_eq_true rfl, Bool.true_and]
  exact List.all_eq_true.2 fun i hi => decide_eq_true (h i (List.mem_range.1 hi))
set_option maxRecDepth 100000 in
set_option maxHeartbeats 2000000 in
theorem equalTiles_any (n : Nat) (fs : List Int) (v : Value) (m : Nat) (gs : List Int) (u : Value) (w : World) (hn : n ≤ 1048576) (hm : m ≤ 1048576) (h : SlK 2 w v n fs) (g : SlK 2 w u m gs) :
    Calls Try.prog 73 #[v, u] w fun e w' => e = .returned (.bool (sameTiles n m fs gs)) ∧ Drawn w w' := by
  obtain ⟨-, p, cap, rfl, hf⟩ := h
  obtain ⟨-, q, cap', rfl, hg⟩ := g
  have Hf := Lib.hid hf
  have Hg := Lib.hid hg
  clear hf hg
  have Hno := Lib.hid (fun i hi h => sameTiles_not (n := n) (m := m) (fs := fs) (gs := gs) i hi h)
  have Hyes := Lib.hid (fun h => sameTiles_of (n := n) (fs := fs) (gs := gs) h)
  by_cases hne : ¬ n = m
  · have E := Lib.hid (show sameTiles n m fs gs = false by unfold sameTiles; rw [decide_eq_false hne]; rfl)
    have hd : ((n : Int) != (m : Int)) = true := by simp; omega
    have hd2 : ((n : Int) = (m : Int)) = False := eq_false (by omega)
    have hd3 : (n = m) = False := eq_false hne
    clear hne Hno Hyes
    go_enter Try.func73, Try.ntmps73
    go_wp2
    go_ret
    exact ⟨ret_bool E.out.symm, Drawn.refl _⟩
  obtain rfl : n = m := by omega
  have hd : ((n : Int) != (n : Int)) = false := by simp
  clear hne
  generalize hR : sameTiles n n fs gs = R at *
  clear hR
  go_enter Try.func73, Try.ntmps73
  go_wp2
  go_loopw [13] (fun i wr => ∃ k : Nat, k ≤ n ∧ i = .int .i64 (k : Int) ∧ Hid (∀ j, j < k * 2 → fs.getD j 0 = gs.getD j 0) ∧ Drawn w wr) (fun i _ => n - (intOf i).toNat)
  case atStart => exact ⟨0, Nat.zero_le _, rfl, Lib.hid (fun j h => absurd h (by omega)), Drawn.refl _⟩
  case round =>
    obtain ⟨k, hk, rfl, hdn, hw⟩ := hrel
    by_cases hlt : k < n
    · obtain ⟨hcap, b, off, rfl, hbs, hc⟩ := Hf.out (by omega)
      obtain ⟨hcap', b', off', rfl, hbs', hc'⟩ := Hg.out (by omega)
      have c0 : wr.cell? ⟨b, off + k * 2, none⟩ = some (Value.int .i64 (fs.getD (k * 2) 0)) := (hw.cell _).trans (hc (k * 2) (by omega))
      have e0 : wr.cell? ⟨b', off' + k * 2, none⟩ = some (Value.int .i64 (gs.getD (k * 2) 0)) := (hw.cell _).trans (hc' (k * 2) (by omega))
      have Hno0 := Lib.hid (Hno.out (k * 2) (by omega))
      have c1 : wr.cell? ⟨b, off + k * 2 + 1, none⟩ = some (Value.int .i64 (fs.getD (k * 2 + 1) 0)) := (hw.cell _).trans (hc (k * 2 + 1) (by omega))
      have e1 : wr.cell? ⟨b', off' + k * 2 + 1, none⟩ = some (Value.int .i64 (gs.getD (k * 2 + 1) 0)) := (hw.cell _).trans (hc' (k * 2 + 1) (by omega))
      have Hno1 := Lib.hid (Hno.out (k * 2 + 1) (by omega))
      have HD : Hid (fs.getD (k * 2) 0 = gs.getD (k * 2) 0 → fs.getD (k * 2 + 1) 0 = gs.getD (k * 2 + 1) 0 → ∀ j, j < (k + 1) * 2 → fs.getD j 0 = gs.getD j 0) := Lib.hid (fun q0 q1 j hj => by
        by_cases h9 : j < k * 2
        · exact hdn.out j h9
        rcases (show j = k * 2 ∨ j = k * 2 + 1 by omega) with rfl | rfl
        · exact q0
        · exact q1)
      clear hc hc' Hno Hyes hdn
      generalize fs.getD (k * 2) 0 = X at *
      generalize gs.getD (k * 2) 0 = X2 at *
      generalize fs.getD (k * 2 + 1) 0 = Y at *
      generalize gs.getD (k * 2 + 1) 0 = Y2 at *
      by_cases h0 : ¬ X = X2
      · have HR := Lib.hid (Hno0.out h0)
        have hb0 : (X == X2) = false := by simp [h0]
        have hb8 : (X != X2) = true := by simp [h0]
        have hb9 : (X = X2) = False := eq_false h0
        clear HD Hno0 Hno1 h0
        go_wp2
        go_region
        all_goals
          go_wp2
          go_ret
          exact ⟨ret_bool HR.out.symm, hw.more _⟩
      obtain rfl : X = X2 := by omega
      clear h0
      by_cases h1 : ¬ Y = Y2
      · have HR := Lib.hid (Hno1.out h1)
        have hb1 : (Y == Y2) = false := by simp [h1]
        have hb8 : (Y != Y2) = true := by simp [h1]
        have hb9 : (Y = Y2) = False := eq_false h1
        clear HD Hno0 Hno1 h1
        go_wp2
        go_region
        all_goals
          go_wp2
          go_ret
          exact ⟨ret_bool HR.out.symm, hw.more _⟩
      obtain rfl : Y = Y2 := by omega
      clear h1
      have HD2 := Lib.hid (HD.out rfl rfl)
      clear HD Hno0 Hno1
      go_wp2
      go_region
      all_goals
        go_wp2
        go_roundw
      all_goals first | exact ⟨k + 1, by omega, by go_num, HD2, hw.more _⟩ | (simp [intOf]; omega)
    · obtain rfl : k = n := by omega
      have HR := Lib.hid (Hyes.out hdn.out)
      clear Hno Hyes hdn
      go_wp2
      go_ret
      exact ⟨ret_bool HR.out.symm, hw⟩
set_option maxRecDepth 100000 in
set_option maxHeartbeats 2000000 in
theorem sameTiles_spec (n : Nat) (fs : List Int) (v : Value) (m : Nat) (gs : List Int) (u : Value) (w : World) (hn : n ≤ 1048576) (hm : m ≤ 1048576) (h : SlK 2 w v n fs) (g : SlK 2 w u m gs) :
    Calls Try.prog 37 #[v, u] w fun e w' => e = .returned (.bool (sameTiles n m fs gs)) ∧ Drawn w w' := by
  obtain ⟨-, p, cap, rfl, hf⟩ := h
  obtain ⟨-, q, cap', rfl, hg⟩ := g
  have Hf := Lib.hid hf
  have Hg := Lib.hid hg
  clear hf hg
  have Hno := Lib.hid (fun i hi h => sameTiles_not (n := n) (m := m) (fs := fs) (gs := gs) i hi h)
  have Hyes := Lib.hid (fun h => sameTiles_of (n := n) (fs := fs) (gs := gs) h)
  by_cases hne : ¬ n = m
  · have E := Lib.hid (show sameTiles n m fs gs = false by unfold sameTiles; rw [decide_eq_false hne]; rfl)
    have hd : ((n : Int) != (m : Int)) = true := by simp; omega
    have hd2 : ((n : Int) = (m : Int)) = False := eq_false (by omega)
    have hd3 : (n = m) = False := eq_false hne
    clear hne Hno Hyes
    go_enter Try.func37, Try.ntmps37
    go_wp2
    go_ret
    exact ⟨ret_bool E.out.symm, Drawn.refl _⟩
  obtain rfl : n = m := by omega
  have hd : ((n : Int) != (n : Int)) = false := by simp
  clear hne
  generalize hR : sameTiles n n fs gs = R at *
  clear hR
  go_enter Try.func37, Try.ntmps37
  go_wp2
  go_loopw [5] (fun i wr => ∃ k : Nat, k ≤ n ∧ i = .int .i64 (k : Int) ∧ Hid (∀ j, j < k * 2 → fs.getD j 0 = gs.getD j 0) ∧ Drawn w wr) (fun i _ => n - (intOf i).toNat)
  case atStart => exact ⟨0, Nat.zero_le _, rfl, Lib.hid (fun j h => absurd h (by omega)), Drawn.refl _⟩
  case round =>
    obtain ⟨k, hk, rfl, hdn, hw⟩ := hrel
    by_cases hlt : k < n
    · obtain ⟨hcap, b, off, rfl, hbs, hc⟩ := Hf.out (by omega)
      obtain ⟨hcap', b', off', rfl, hbs', hc'⟩ := Hg.out (by omega)
      have c0 : wr.cell? ⟨b, off + k * 2, none⟩ = some (Value.int .i64 (fs.getD (k * 2) 0)) := (hw.cell _).trans (hc (k * 2) (by omega))
      have e0 : wr.cell? ⟨b', off' + k * 2, none⟩ = some (Value.int .i64 (gs.getD (k * 2) 0)) := (hw.cell _).trans (hc' (k * 2) (by omega))
      have Hno0 := Lib.hid (Hno.out (k * 2) (by omega))
      have c1 : wr.cell? ⟨b, off + k * 2 + 1, none⟩ = some (Value.int .i64 (fs.getD (k * 2 + 1) 0)) := (hw.cell _).trans (hc (k * 2 + 1) (by omega))
      have e1 : wr.cell? ⟨b', off' + k * 2 + 1, none⟩ = some (Value.int .i64 (gs.getD (k * 2 + 1) 0)) := (hw.cell _).trans (hc' (k * 2 + 1) (by omega))
      have Hno1 := Lib.hid (Hno.out (k * 2 + 1) (by omega))
      have HD : Hid (fs.getD (k * 2) 0 = gs.getD (k * 2) 0 → fs.getD (k * 2 + 1) 0 = gs.getD (k * 2 + 1) 0 → ∀ j, j < (k + 1) * 2 → fs.getD j 0 = gs.getD j 0) := Lib.hid (fun q0 q1 j hj => by
        by_cases h9 : j < k * 2
        · exact hdn.out j h9
        rcases (show j = k * 2 ∨ j = k * 2 + 1 by omega) with rfl | rfl
        · exact q0
        · exact q1)
      clear hc hc' Hno Hyes hdn
      generalize fs.getD (k * 2) 0 = X at *
      generalize gs.getD (k * 2) 0 = X2 at *
      generalize fs.getD (k * 2 + 1) 0 = Y at *
      generalize gs.getD (k * 2 + 1) 0 = Y2 at *
      by_cases h0 : ¬ X = X2
      · have HR := Lib.hid (Hno0.out h0)
        have hb0 : (X == X2) = false := by simp [h0]
        have hb8 : (X != X2) = true := by simp [h0]
        have hb9 : (X = X2) = False := eq_false h0
        clear HD Hno0 Hno1 h0
        go_wp2
        go_quiet (fail)
        all_goals
          go_wp2
          go_ret
          exact ⟨ret_bool HR.out.symm, hw.more _⟩
      obtain rfl : X = X2 := by omega
      clear h0
      by_cases h1 : ¬ Y = Y2
      · have HR := Lib.hid (Hno1.out h1)
        have hb1 : (Y == Y2) = false := by simp [h1]
        have hb8 : (Y != Y2) = true := by simp [h1]
        have hb9 : (Y = Y2) = False := eq_false h1
        clear HD Hno0 Hno1 h1
        go_wp2
        go_quiet (fail)
        all_goals
          go_wp2
          go_ret
          exact ⟨ret_bool HR.out.symm, hw.more _⟩
      obtain rfl : Y = Y2 := by omega
      clear h1
      have HD2 := Lib.hid (HD.out rfl rfl)
      clear HD Hno0 Hno1
      go_wp2
      go_quiet (fail)
      all_goals
        go_wp2
        go_roundw
      all_goals first | exact ⟨k + 1, by omega, by go_num, HD2, hw.more _⟩ | (simp [intOf]; omega)
    · obtain rfl : k = n := by omega
      have HR := Lib.hid (Hyes.out hdn.out)
      clear Hno Hyes hdn
      go_wp2
      go_ret
      exact ⟨ret_bool HR.out.symm, hw⟩
def ok_SameTiles (n : Nat) (fs : List Int) (m : Nat) (gs : List Int) : Bool := sameTiles n m fs gs
theorem spec_SameTiles (n : Nat) (fs : List Int) (v : Value) (m : Nat) (gs : List Int) (u : Value) (w : World) (hn : n ≤ 1048576) (h : SlK 2 w v n fs) (hm : m ≤ 1048576) (g : SlK 2 w u m gs) :
    Calls Try.prog 37 #[v, u] w fun e w' => e = .returned (.bool (ok_SameTiles n fs m gs)) ∧ Below w.heap.size w w' := (sameTiles_spec n fs v m gs u w hn hm h g).mono fun e w' ⟨h1, h2⟩ => ⟨h1, h2.below _⟩
theorem impl_SameTiles (n : Nat) (fs : List Int) (v : Value) (m : Nat) (gs : List Int) (u : Value) (w : World) (hn : n ≤ 1048576) (h : SlK 2 w v n fs) (hm : m ≤ 1048576) (g : SlK 2 w u m gs) :
    Calls Try.prog 38 #[v, u] w fun e w' => e = .returned (.bool (ok_SameTiles n fs m gs)) ∧ Below w.heap.size w w' := by
  have H := Lib.hid (equalTiles_any n fs v m gs u w hn hm h g)
  unfold ok_SameTiles
  obtain ⟨-, p, cap, rfl, -⟩ := h
  obtain ⟨-, q, cap', rfl, -⟩ := g
  generalize sameTiles n m fs gs = R at *
  go_enter Try.func38, Try.ntmps38
  go_wp2_with (refine (H.out).mono ?_; rintro e w' ⟨rfl, hd⟩; have Hd := Lib.hid hd; clear hd)
  go_ret
  exact ⟨rfl, Hd.out.below _⟩
end Go.Proofs.Ytfipcpbibmhjoaa
