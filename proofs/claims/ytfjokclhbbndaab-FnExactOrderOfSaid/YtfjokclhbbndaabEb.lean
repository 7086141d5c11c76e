/- Contracts: descents and rising runs, in both texts. -/
import Derived.Test.YtfjokclhbbndaabEa
import Derived.RegionTactic
set_option linter.unusedVariables false
namespace Go.Proofs.Ytfjokclhbbndaab
open Go.RowKit

theorem desc_yes (fs : List Int) (h : deckB fs = true) : ok_DescentsOf fs = true ∧ res_DescentsOf fs = (descR fs (fs.length - 1) : Nat) := ⟨h, if_pos h⟩
theorem desc_no (fs : List Int) (h : deckB fs = false) : ok_DescentsOf fs = false ∧ res_DescentsOf fs = 0 := ⟨h, if_neg (by rw [h]; exact Bool.false_ne_true)⟩
theorem runs_yes (fs : List Int) (h : deckB fs = true) : ok_RisingRuns fs = true ∧ res_RisingRuns fs = (descR (placesR fs fs.length) (fs.length - 1) : Nat) + 1 := ⟨h, if_pos h⟩
theorem runs_no (fs : List Int) (h : deckB fs = false) : ok_RisingRuns fs = false ∧ res_RisingRuns fs = 0 := ⟨h, if_neg (by rw [h]; exact Bool.false_ne_true)⟩
theorem descR_yes (fs : List Int) (j : Nat) (h : fs.getD (j + 1) 0 < fs.getD j 0) : descR fs (j + 1) = descR fs j + 1 := by simp only [descR, if_pos h]
theorem descR_no (fs : List Int) (j : Nat) (h : ¬ fs.getD (j + 1) 0 < fs.getD j 0) : descR fs (j + 1) = descR fs j := by simp only [descR, if_neg h, Nat.add_zero]

set_option maxHeartbeats 1000000 in
theorem descents_any (fs : List Int) (v : Value) (w : World) (hn : fs.length ≤ 1048576) (h1 : 1 ≤ fs.length) (h : Sl (Value.int .i64) 0 w v fs) :
    Calls Try.prog 60 #[v] w fun e w' => e = .returned (.int .i64 ((descR fs (fs.length - 1) : Nat) : Int)) ∧ Drawn w w' := by
  obtain ⟨p, cap, rfl, hf⟩ := h
  have Hf := Lib.hid hf
  clear hf
  have Hle := Lib.hid (descR_le fs)
  have Hk := Lib.hid (fun (a : Addr) (u : Value) (_ : a.block < w.heap.size) (hc : w.cell? a = some u) => hc)
  generalize fs.length = n at *
  go_enter Try.func60, Try.ntmps60
  go_wp2
  go_loopw [3, 4] (fun c i wr => ∃ j : Nat, j + 1 ≤ n ∧ i = .int .i64 ((j : Int) + 1) ∧ c = .int .i64 ((descR fs j : Nat) : Int) ∧ Drawn w wr) (fun _ i _ => n - (intOf i).toNat)
  case atStart => exact ⟨0, by omega, by go_num, rfl, Drawn.refl _⟩
  case round =>
    obtain ⟨j, hj, rfl, rfl, hd⟩ := hrel
    have Hd := Lib.hid hd
    have hle := Hle.out j
    by_cases hlt : j + 1 < n
    · obtain ⟨hcap, b, off, rfl, hbs, hc⟩ := Hf.out (by omega)
      have c1 : wr.cell? ⟨b, off + (j + 1), none⟩ = some (.int .i64 (fs.getD (j + 1) 0)) := by rw [hd.cell]; exact Hk.out ⟨b, _, none⟩ _ hbs (hc (j + 1) hlt)
      have c2 : wr.cell? ⟨b, off + j, none⟩ = some (.int .i64 (fs.getD j 0)) := by rw [hd.cell]; exact Hk.out ⟨b, _, none⟩ _ hbs (hc j (by omega))
      have hy := descR_yes fs j
      have hno := descR_no fs j
      clear hc hd
      generalize fs.getD (j + 1) 0 = x at *
      generalize fs.getD j 0 = y at *
      by_cases hxy : x < y
      · have Hy := Lib.hid (hy hxy)
        have d : decide (x < y) = true := decide_eq_true hxy
        clear hy hno
        go_wp2
        go_region
        all_goals
          go_wp2
          go_roundw
          case rel => exact ⟨j + 1, by omega, by go_num, by rw [Hy.out]; go_num, Hd.out.more 1⟩
          case measure => simp [intOf]; omega
      · have Hno := Lib.hid (hno hxy)
        have d : decide (x < y) = false := decide_eq_false hxy
        clear hy hno
        go_wp2
        go_region
        all_goals
          go_wp2
          go_roundw
          case rel => exact ⟨j + 1, by omega, by go_num, by rw [Hno.out], Hd.out.more 1⟩
          case measure => simp [intOf]; omega
    · have Hj := Lib.hid (show j = n - 1 by omega)
      clear hd
      go_wp2
      go_ret
      exact ⟨ret_int (by rw [Hj.out]), Hd.out⟩

set_option maxHeartbeats 1000000 in
theorem impl_desc_yes (fs : List Int) (v : Value) (w : World) (hn : fs.length ≤ 1048576) (h : Sl (Value.int .i64) 0 w v fs) (hd : deckB fs = true) :
    Calls Try.prog 32 #[v] w fun e w' => e = .returned (.tuple #[.int .i64 ((descR fs (fs.length - 1) : Nat) : Int), .bool true]) ∧ Below w.heap.size w w' := by
  have Hd0 := Lib.hid (deckI_yes fs _ w hn h hd)
  have h1 := (deckB_len hd).1
  obtain ⟨p, cap, rfl, hf⟩ := h
  have Hf := Lib.hid hf
  clear hf hd
  have Hle := Lib.hid (descR_le fs)
  generalize fs.length = n at *
  go_enter Try.func32, Try.ntmps32
  go_wp2_with fail
  refine Hd0.out.mono ?_
  rintro e w1 ⟨rfl, hb1⟩
  have Hb1 := Lib.hid hb1
  have Hk := Lib.hid (fun (a : Addr) (u : Value) (_ : a.block < w.heap.size) (hc : w.cell? a = some u) => cell_keep hb1 hc)
  clear hb1
  go_wp2
  go_loopw [4, 5] (fun c i wr => ∃ j : Nat, j + 1 ≤ n ∧ i = .int .i64 ((j : Int) + 1) ∧ c = .int .i64 ((descR fs j : Nat) : Int) ∧ Drawn w1 wr) (fun _ i _ => n - (intOf i).toNat)
  case atStart => exact ⟨0, by omega, by go_num, rfl, Drawn.refl _⟩
  case round =>
    obtain ⟨j, hj, rfl, rfl, hd⟩ := hrel
    have Hd := Lib.hid hd
    have hle := Hle.out j
    by_cases hlt : j + 1 < n
    · obtain ⟨hcap, b, off, rfl, hbs, hc⟩ := Hf.out (by omega)
      have c1 : wr.cell? ⟨b, off + (j + 1), none⟩ = some (.int .i64 (fs.getD (j + 1) 0)) := by rw [hd.cell]; exact Hk.out ⟨b, _, none⟩ _ hbs (hc (j + 1) hlt)
      have c2 : wr.cell? ⟨b, off + j, none⟩ = some (.int .i64 (fs.getD j 0)) := by rw [hd.cell]; exact Hk.out ⟨b, _, none⟩ _ hbs (hc j (by omega))
      have hy := descR_yes fs j
      have hno := descR_no fs j
      clear hc hd
      generalize fs.getD (j + 1) 0 = x at *
      generalize fs.getD j 0 = y at *
      by_cases hxy : x < y
      · have Hy := Lib.hid (hy hxy)
        have d : decide (x < y) = true := decide_eq_true hxy
        clear hy hno
        go_wp2
        go_region
        all_goals
          go_wp2
          go_roundw
          case rel => exact ⟨j + 1, by omega, by go_num, by rw [Hy.out]; go_num, Hd.out.more 1⟩
          case measure => simp [intOf]; omega
      · have Hno := Lib.hid (hno hxy)
        have d : decide (x < y) = false := decide_eq_false hxy
        clear hy hno
        go_wp2
        go_region
        all_goals
          go_wp2
          go_roundw
          case rel => exact ⟨j + 1, by omega, by go_num, by rw [Hno.out], Hd.out.more 1⟩
          case measure => simp [intOf]; omega
    · have Hj := Lib.hid (show j = n - 1 by omega)
      clear hd
      go_wp2
      go_ret2
      rw [Hj.out]
      exact ⟨rfl, Hb1.out.trans (Hd.out.below _)⟩

theorem impl_DescentsOf (fs : List Int) (v : Value) (w : World) (hn : fs.length ≤ 1048576) (h : Sl (Value.int .i64) 0 w v fs) :
    Calls Try.prog 32 #[v] w fun e w' => e = .returned (.tuple #[.int .i64 (res_DescentsOf fs), .bool (ok_DescentsOf fs)]) ∧ Below w.heap.size w w' := by
  cases hd : deckB fs
  · obtain ⟨e1, e2⟩ := desc_no fs hd
    rw [e1, e2]
    have Hd := Lib.hid (deckI_no fs _ w hn h hd)
    obtain ⟨p, cap, rfl, hf⟩ := h
    clear hd e1 e2 hf
    go_enter Try.func32, Try.ntmps32
    go_wp2_with (first | (go_at_call 45; refine Hd.out.mono ?_; rintro e w' ⟨rfl, hb⟩; have Hb := Lib.hid hb; clear hb))
    go_ret2
    exact ⟨rfl, Hb.out⟩
  · obtain ⟨e1, e2⟩ := desc_yes fs hd
    rw [e1, e2]
    exact impl_desc_yes fs v w hn h hd
theorem spec_DescentsOf (fs : List Int) (v : Value) (w : World) (hn : fs.length ≤ 1048576) (h : Sl (Value.int .i64) 0 w v fs) :
    Calls Try.prog 31 #[v] w fun e w' => e = .returned (.tuple #[.int .i64 (res_DescentsOf fs), .bool (ok_DescentsOf fs)]) ∧ Below w.heap.size w w' := by
  cases hd : deckB fs
  · obtain ⟨e1, e2⟩ := desc_no fs hd
    rw [e1, e2]
    have Hd := Lib.hid (deck_no fs _ w hn h hd)
    obtain ⟨p, cap, rfl, hf⟩ := h
    clear hd e1 e2 hf
    go_enter Try.func31, Try.ntmps31
    go_wp2_with (first | (go_at_call 43; refine Hd.out.mono ?_; rintro e w' ⟨rfl, g⟩; have G := Lib.hid g; clear g))
    go_ret2
    exact ⟨rfl, G.out.below _⟩
  · obtain ⟨e1, e2⟩ := desc_yes fs hd
    rw [e1, e2]
    have Hd := Lib.hid (deck_yes fs _ w hn h hd)
    have Hp := Lib.hid (fun (w1 : World) (g : Drawn w w1) => descents_any fs _ w1 hn (deckB_len hd).1 (h.drawn g))
    obtain ⟨p, cap, rfl, hf⟩ := h
    clear hd e1 e2 hf
    go_enter Try.func31, Try.ntmps31
    go_wp2_with fail
    refine Hd.out.mono ?_
    rintro e w1 ⟨rfl, g1⟩
    have G1 := Lib.hid g1
    clear g1
    go_wp2_with fail
    refine (Hp.out w1 G1.out).mono ?_
    rintro e w2 ⟨rfl, g2⟩
    have G2 := Lib.hid (G1.out.trans g2)
    clear g2
    go_wp2
    go_ret2
    exact ⟨rfl, G2.out.below _⟩

theorem impl_RisingRuns (fs : List Int) (v : Value) (w : World) (hn : fs.length ≤ 1048576) (h : Sl (Value.int .i64) 0 w v fs) :
    Calls Try.prog 34 #[v] w fun e w' => e = .returned (.tuple #[.int .i64 (res_RisingRuns fs), .bool (ok_RisingRuns fs)]) ∧ Below w.heap.size w w' := by
  have hi := impl_BackDeck fs v w hn h
  cases hd : deckB fs
  · obtain ⟨e1, e2⟩ := runs_no fs hd
    obtain ⟨e3, e4⟩ := back_no fs hd
    rw [e1, e2]
    rw [e3, e4] at hi
    have Hi := Lib.hid hi
    obtain ⟨p, cap, rfl, hf⟩ := h
    clear hd e1 e2 e3 e4 hf hi
    go_enter Try.func34, Try.ntmps34
    go_wp2_with fail
    refine Hi.out.mono ?_
    rintro e w1 ⟨r, rfl, hs, hb⟩
    have Hb := Lib.hid hb
    clear hs hb
    go_wp2
    go_ret2
    exact ⟨rfl, Hb.out⟩
  · obtain ⟨e1, e2⟩ := runs_yes fs hd
    obtain ⟨e3, e4⟩ := back_yes fs hd
    rw [e1, e2]
    rw [e3, e4] at hi
    have Hi := Lib.hid hi
    have hpl := placesR_len fs fs.length
    have h52 := (deckB_len hd).2.1
    have hle := descR_le (placesR fs fs.length) (fs.length - 1)
    have Hp := Lib.hid (fun (r : Value) (w1 : World) (hs : Sl (Value.int .i64) 0 w1 r (placesR fs fs.length)) => impl_desc_yes (placesR fs fs.length) r w1 (by omega) hs (places_deck fs hd))
    rw [hpl] at Hp
    have hle' : descR (placesR fs fs.length) (fs.length - 1) ≤ 52 := by omega
    clear hpl hle h52
    obtain ⟨p, cap, rfl, hf⟩ := h
    clear hd e1 e2 e3 e4 hf hi
    generalize descR (placesR fs fs.length) (fs.length - 1) = q at *
    go_enter Try.func34, Try.ntmps34
    go_wp2_with fail
    refine Hi.out.mono ?_
    rintro e w1 ⟨r, rfl, hs, hb⟩
    have Hs := Lib.hid hs
    have Hb := Lib.hid hb
    obtain ⟨p2, cap2, rfl, hf2⟩ := hs
    clear hf2 hb
    go_wp2_with fail
    refine (Hp.out _ w1 Hs.out.sl).mono ?_
    rintro e w2 ⟨rfl, hb2⟩
    have Hb2 := Lib.hid hb2
    clear hb2
    go_wp2
    go_ret2
    exact ⟨rfl, below_step Hb.out Hb2.out (Nat.le_refl _)⟩
theorem spec_RisingRuns (fs : List Int) (v : Value) (w : World) (hn : fs.length ≤ 1048576) (h : Sl (Value.int .i64) 0 w v fs) :
    Calls Try.prog 33 #[v] w fun e w' => e = .returned (.tuple #[.int .i64 (res_RisingRuns fs), .bool (ok_RisingRuns fs)]) ∧ Below w.heap.size w w' := by
  cases hd : deckB fs
  · obtain ⟨e1, e2⟩ := runs_no fs hd
    rw [e1, e2]
    have Hd := Lib.hid (deck_no fs _ w hn h hd)
    obtain ⟨p, cap, rfl, hf⟩ := h
    clear hd e1 e2 hf
    go_enter Try.func33, Try.ntmps33
    go_wp2_with (first | (go_at_call 43; refine Hd.out.mono ?_; rintro e w' ⟨rfl, g⟩; have G := Lib.hid g; clear g))
    go_ret2
    exact ⟨rfl, G.out.below _⟩
  · obtain ⟨e1, e2⟩ := runs_yes fs hd
    rw [e1, e2]
    have Hd := Lib.hid (deck_yes fs _ w hn h hd)
    have Hi := Lib.hid (fun (w1 : World) (g : Drawn w w1) => places_any fs _ w1 hn (h.drawn g) hd)
    have hpl := placesR_len fs fs.length
    have h52 := (deckB_len hd).2.1
    have h51 := (deckB_len hd).1
    have hle := descR_le (placesR fs fs.length) (fs.length - 1)
    have Hp := Lib.hid (fun (r : Value) (w1 : World) (hs : Sl (Value.int .i64) 0 w1 r (placesR fs fs.length)) => descents_any (placesR fs fs.length) r w1 (by omega) (by omega) hs)
    rw [hpl] at Hp
    have hle' : descR (placesR fs fs.length) (fs.length - 1) ≤ 52 := by omega
    clear hpl hle h52 h51
    obtain ⟨p, cap, rfl, hf⟩ := h
    clear hd e1 e2 hf
    generalize descR (placesR fs fs.length) (fs.length - 1) = q at *
    go_enter Try.func33, Try.ntmps33
    go_wp2_with fail
    refine Hd.out.mono ?_
    rintro e w1 ⟨rfl, g1⟩
    have G1 := Lib.hid g1
    clear g1
    go_wp2_with fail
    refine (Hi.out w1 G1.out).mono ?_
    rintro e w2 ⟨r, rfl, hs, hb⟩
    have Hs := Lib.hid hs
    have Hb := Lib.hid hb
    clear hs hb
    go_wp2_with fail
    refine (Hp.out _ w2 Hs.out.sl).mono ?_
    rintro e w3 ⟨rfl, g3⟩
    have G3 := Lib.hid g3
    clear g3
    go_wp2
    go_ret2
    have e := G1.out.heap
    exact ⟨rfl, ((G1.out.below _).trans (Hb.out.mono (by rw [e]; exact Nat.le_refl _))).trans (G3.out.below _)⟩
end Go.Proofs.Ytfjokclhbbndaab
