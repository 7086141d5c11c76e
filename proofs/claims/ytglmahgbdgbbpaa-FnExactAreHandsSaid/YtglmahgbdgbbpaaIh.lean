/- Contracts: hands, in both texts. -/
import Derived.Test.YtglmahgbdgbbpaaDk
import Derived.Test.YtglmahgbdgbbpaaIg
import Derived.Maps.Own
import Derived.Maps.OwnSet
set_option linter.unusedVariables false
namespace Go.Proofs.Ytglmahgbdgbbpaa
open Go.RowKit



theorem lawK : Maps.Keyed Try.prog 2 := Maps.int_keyed Try.underlying2
set_option maxHeartbeats 1000000 in
theorem setOf_any (fs : List Int) (v : Value) (w : World) (hn : fs.length ≤ 1048576) (hr : ∀ k, k < fs.length → 0 ≤ fs.getD k 0 ∧ fs.getD k 0 ≤ 51) (h : Sl (Value.int .i64) 0 w v fs) :
    Calls Try.prog 85 #[v] w fun e w' => e = .returned (.map (some w.heap.size)) ∧ w'.ownsMap Try.prog 2 (plainElem (H := Unit) Try.prog 4) w.heap.size fs.length (Maps.setOf (.lit (.bool true)) (litsI fs)) ∧ Below w.heap.size w w' := by
  obtain ⟨p, cap, rfl, hf⟩ := h
  have Hf := Lib.hid hf
  have Hr := Lib.hid hr
  clear hf hr
  generalize hlen : fs.length = n at *
  have Hlen := Lib.hid hlen
  clear hlen
  have hmm := @run_makeMap Try.prog
  go_enter Try.func85, Try.ntmps85
  go_wp2
  go_loopw [9] (fun i wr => ∃ k : Nat, k ≤ n ∧ i = .int .i64 k ∧ wr.ownsMap Try.prog 2 (plainElem (H := Unit) Try.prog 4) w.heap.size k (Maps.setOf (.lit (.bool true)) (litsI (fs.take k))) ∧ Below w.heap.size w wr) (fun i _ => n - (intOf i).toNat)
  case atStart => exact ⟨0, Nat.zero_le _, rfl, by rw [List.take_zero]; exact World.ownsMap_made _ _ _ _, (Below.refl _ _).alloc (Nat.le_refl _) _⟩
  case round =>
    obtain ⟨k, hk, rfl, hown, hb⟩ := hrel
    have Hown := Lib.hid hown
    have Hb := Lib.hid hb
    clear hown
    by_cases hlt : k < n
    · obtain ⟨hcap, b, off, rfl, hbs, hc⟩ := Hf.out (by omega)
      obtain ⟨x0, x1⟩ := Hr.out k hlt
      have c1 : wr.cell? ⟨b, off + k, none⟩ = some (.int .i64 (fs.getD k 0)) := by rw [hb.cell hbs]; exact hc k hlt
      have Hsn : Hid (litsI (fs.take (k + 1)) = litsI (fs.take k) ++ [Lit.int .i64 (fs.getD k 0)]) := Lib.hid (by
        rw [List.take_succ_eq_append_getElem (by rw [Hlen.out]; exact hlt), litsI, List.map_append, getD_lt fs 0 k (by rw [Hlen.out]; exact hlt)]; rfl)
      have Hkey := Lib.hid (Maps.keyOf_int_mk (P := Try.prog) Try.underlying2 (a := fs.getD k 0) (WalkArith.wf_i64 (by omega)))
      clear hc hb
      generalize fs.getD k 0 = x at *
      go_wp2_with (at_mapUpdate; refine wpList_mapUpdate_own _ rfl _ _ _ 76 rfl 2 4 lawK Try.underlying76 _ w.heap.size k _ rfl Hown.out (by unfold maxLen; omega) _ _ _ rfl rfl Hkey.out _ [] (plainElem_bool Try.underlying4 true) ?_; intro w1 hown1 hgrow1; have Hown1 := Lib.hid hown1; have Hb1 := Lib.hid (Hb.out.grown hgrow1 Hb.out.size (fun j hj => by cases hj; exact Nat.le_refl _)); clear hown1 hgrow1)
      go_roundw
      case rel => exact ⟨k + 1, by omega, by go_num, by rw [Hsn.out, Maps.setOf_snoc]; exact Hown1.out, Hb1.out⟩
      case measure => simp [intOf]; omega
    · obtain rfl : k = n := by omega
      go_wp2
      go_ret
      refine ⟨rfl, ?_, Hb.out⟩
      have := Hown.out
      rw [← Hlen.out, List.take_length] at this
      rw [← Hlen.out]
      exact this

set_option maxRecDepth 100000 in
set_option maxHeartbeats 1000000 in
theorem areCards_any (fs : List Int) (v : Value) (w : World) (hn : fs.length ≤ 1048576) (h : Sl (Value.int .i64) 0 w v fs) :
    Calls Try.prog 52 #[v] w fun e w' => e = .returned (.bool (cardsB fs)) ∧ Below w.heap.size w w' := by
  have Hs := Lib.hid h
  have Hset := Lib.hid (fun hr => setOf_any fs v w hn hr h)
  have Hsz := Lib.hid (fun hr => size_cards (.lit (.bool true) : DataW Unit) fs hr)
  have Hbad := Lib.hid (fun k hk e => cardsB_bad (fs := fs) k hk (handAt_out fs k e))
  obtain ⟨p, cap, rfl, hf⟩ := h
  have Hf := Lib.hid hf
  clear hf
  generalize hlen : fs.length = n at *
  generalize cardsB fs = B at *
  have Hlen := Lib.hid hlen
  clear hlen
  go_enter Try.func52, Try.ntmps52
  go_wp2
  go_loop [7] (fun i => ∃ k : Nat, k ≤ n ∧ i = .int .i64 k ∧ Hid (∀ j, j < k → 0 ≤ fs.getD j 0 ∧ fs.getD j 0 ≤ 51)) (fun i => n - (intOf i).toNat)
  case atStart => exact ⟨0, Nat.zero_le _, rfl, fun j hj => absurd hj (by omega)⟩
  case round =>
    obtain ⟨k, hk, rfl, hp⟩ := hrel
    by_cases hlt : k < n
    · obtain ⟨hcap, b, off, rfl, hbs, hc⟩ := Hf.out (by omega)
      have c1 := hc k hlt
      clear hc
      by_cases hx : fs.getD k 0 < 0
      · have HB := Lib.hid (Hbad.out k hlt (.inl hx))
        have d1 : decide (fs.getD k 0 < 0) = true := decide_eq_true hx
        generalize fs.getD k 0 = x at *
        go_wp2
        go_ret
        exact ⟨ret_bool HB.out.symm, Below.refl _ _⟩
      · by_cases hy : 52 ≤ fs.getD k 0
        · have HB := Lib.hid (Hbad.out k hlt (.inr (by omega)))
          have d1 : decide (fs.getD k 0 < 0) = false := decide_eq_false hx
          have d2 : decide (52 ≤ fs.getD k 0) = true := decide_eq_true hy
          generalize fs.getD k 0 = x at *
          go_wp2
          go_ret
          exact ⟨ret_bool HB.out.symm, Below.refl _ _⟩
        · have Hp2 : Hid (∀ j, j < k + 1 → 0 ≤ fs.getD j 0 ∧ fs.getD j 0 ≤ 51) := Lib.hid (fun j hj => by
            by_cases e : j = k
            · subst e; omega
            · exact hp.out j (by omega))
          have d1 : decide (fs.getD k 0 < 0) = false := decide_eq_false hx
          have d2 : decide (52 ≤ fs.getD k 0) = false := decide_eq_false hy
          generalize fs.getD k 0 = x at *
          go_wp2
          go_round
          case rel => exact ⟨k + 1, by omega, by go_num, Hp2⟩
          case measure => simp [intOf]; omega
    · obtain rfl : k = n := by omega
      have Hz := Lib.hid (Hsz.out hp.out)
      have Hs2 := Lib.hid (Hset.out hp.out)
      go_wp2_with fail
      refine Hs2.out.mono ?_
      rintro e w' ⟨rfl, hown, hb⟩
      have Hb := Lib.hid hb
      have Hown := Lib.hid hown
      clear hb hown
      go_wp2_with (at_len; refine wpList_len_own _ rfl _ 76 rfl 2 4 Try.underlying76 _ w.heap.size k _ rfl Hown.out ?_)
      go_ret
      refine ⟨ret_bool ?_, Hb.out⟩
      rw [← Hz.out]
      rw [Bool.eq_iff_iff]; simp; omega

theorem handOf_any (fs : List Int) (v : Value) (lo hi : Nat) (w : World) (hn : fs.length ≤ 1048576) (hlo : lo ≤ 100) (hhi : hi ≤ 100) (h : Sl (Value.int .i64) 0 w v fs) :
    Calls Try.prog 56 #[v, .int .i64 (lo : Int), .int .i64 (hi : Int)] w fun e w' => e = .returned (.bool (handB lo hi fs)) ∧ Below w.heap.size w w' := by
  have Hs := Lib.hid (areCards_any fs v w hn h)
  obtain ⟨p, cap, rfl, hf⟩ := h
  clear hf
  unfold handB
  generalize cardsB fs = B at *
  generalize fs.length = n at *
  by_cases h1 : lo ≤ n
  · have d1 : decide ((lo : Int) ≤ (n : Int)) = true := decide_eq_true (by omega)
    by_cases h2 : n ≤ hi
    · rw [decide_eq_true h1, decide_eq_true h2]
      go_enter Try.func56, Try.ntmps56
      go_wp2_with (go_at_call 52; refine Hs.out.mono ?_; rintro e w' ⟨rfl, hb⟩; have Hb := Lib.hid hb; clear hb)
      go_ret
      exact ⟨ret_bool (by simp), Hb.out⟩
    · rw [decide_eq_true h1, decide_eq_false h2]
      go_enter Try.func56, Try.ntmps56
      go_wp2
      go_ret
      exact ⟨ret_bool (by simp), Below.refl _ _⟩
  · rw [decide_eq_false h1]
    go_enter Try.func56, Try.ntmps56
    go_wp2
    go_ret
    exact ⟨ret_bool (by simp), Below.refl _ _⟩

def ok_IsHand (fs : List Int) : Bool := handB 1 7 fs
