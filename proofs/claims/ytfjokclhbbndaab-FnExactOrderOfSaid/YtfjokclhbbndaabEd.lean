/- Contracts: ranks in the program's text; the model's function. -/
import Derived.Test.YtfjokclhbbndaabEc
set_option linter.unusedVariables false
namespace Go.Proofs.Ytfjokclhbbndaab
open Go.RowKit

theorem rsize_yes (n : Int) (w : World) (h1 : 1 ≤ n) (h2 : n ≤ 20) : Calls Try.prog 51 #[.int .i64 n] w fun e w' => e = .returned (.bool true) ∧ w = w' := by
  go_enter Try.func51, Try.ntmps51
  go_wp2
  go_ret
  exact ⟨rfl, rfl⟩
theorem rsize_no (n : Int) (w : World) (h : n < 1 ∨ 20 < n) : Calls Try.prog 51 #[.int .i64 n] w fun e w' => e = .returned (.bool false) ∧ w = w' := by
  by_cases h1 : n < 1
  · clear h
    have d : decide (1 ≤ n) = false := decide_eq_false (by omega)
    go_enter Try.func51, Try.ntmps51
    go_wp2
    go_ret
    exact ⟨rfl, rfl⟩
  · have h2 : 20 < n := by omega
    have h1' : 1 ≤ n := by omega
    clear h
    have d : decide (n ≤ 20) = false := decide_eq_false (by omega)
    go_enter Try.func51, Try.ntmps51
    go_wp2
    go_ret
    exact ⟨rfl, rfl⟩

set_option maxHeartbeats 2000000 in
theorem rank_impl_yes (fs : List Int) (v : Value) (w : World) (hn : fs.length ≤ 20) (h : Sl (Value.int .i64) 0 w v fs) (hd : deckB fs = true) :
    Calls Try.prog 28 #[v] w fun e w' => e = .returned (.tuple #[.int .i64 ((rankR fs fs.length : Nat) : Int), .bool true]) ∧ Below w.heap.size w w' := by
  have Hd0 := Lib.hid (deckI_yes fs _ w (by omega) h hd)
  have Hs := Lib.hid h
  have h1 := (deckB_len hd).1
  obtain ⟨p, cap, rfl, hf⟩ := h
  have Hf := Lib.hid hf
  clear hf hd
  have Hlz := Lib.hid (lessR_zero fs)
  have Hbd := Lib.hid (fun k (hk : k ≤ fs.length) => rank_bd fs k hk hn)
  have Hmb := Lib.hid (fun k (hk : k < fs.length) => rank_mul_bd fs k hk hn)
  have Hst := Lib.hid (fun k => (show rankR fs (k + 1) = rankR fs k * (fs.length - k) + lessR fs k k (fs.length - k) from rfl))
  have Hla := Lib.hid (fun i (hi : i < fs.length) (u : Value) (z : World) (hz : Sl (Value.int .i64) 0 z u (fs.drop i)) => less_any fs i fs.length u z rfl hi (by omega) hz)
  have Hdr := Lib.hid (fun (z : World) (b off cap : Nat) (hz : Sl (Value.int .i64) 0 z (.slice (some ⟨b, off, none⟩) fs.length cap) fs) (k : Nat) (hk : k < fs.length) (hc : fs.length ≤ cap) => hz.drop k hk (cap - k) (by omega))
  generalize fs.length = n at *
  go_enter Try.func28, Try.ntmps28
  go_wp2_with fail
  refine Hd0.out.mono ?_
  rintro e w1 ⟨rfl, hb1⟩
  have Hb1 := Lib.hid hb1
  clear hb1
  go_wp2_with (go_at_call 51; refine (rsize_yes _ _ (by omega) (by omega)).mono ?_; rintro e w' ⟨rfl, rfl⟩)
  go_loop [4, 19] (fun r i => ∃ k : Nat, k ≤ n ∧ i = .int .i64 (k : Int) ∧ r = .int .i64 ((rankR fs k : Nat) : Int)) (fun _ i => n - (intOf i).toNat)
  case atStart => exact ⟨0, Nat.zero_le _, rfl, rfl⟩
  case round =>
    obtain ⟨k, hk, rfl, rfl⟩ := hrel
    by_cases hlt : k < n
    · obtain ⟨hcap, b, off, rfl, hbs, hc⟩ := Hf.out (by omega)
      have c1 : w1.cell? ⟨b, off + k, none⟩ = some (.int .i64 (fs.getD k 0)) := by rw [Hb1.out.cell hbs]; exact hc k hlt
      have hcl := Hla.out k hlt (.slice (some ⟨b, off + k, none⟩) (n - k) (cap - k)) w1 (Hdr.out _ _ _ _ (Hs.out.later Hb1.out) k hlt hcap)
      have hlz := Hlz.out k (n - k)
      have m0 : 0 ≤ ((rankR fs k : Nat) : Int) * ((n - k : Nat) : Int) ∧ ((rankR fs k : Nat) : Int) * ((n - k : Nat) : Int) ≤ 2432902008176640000 := by
        have := Hmb.out k hlt
        have e : ((rankR fs k : Nat) : Int) * ((n - k : Nat) : Int) = ((rankR fs k * (n - k) : Nat) : Int) := by rw [Int.natCast_mul]
        rw [e]; omega
      obtain ⟨m1, m2⟩ := m0
      have Hfin := Lib.hid (show ((rankR fs (k + 1) : Nat) : Int) = ((rankR fs k : Nat) : Int) * ((n - k : Nat) : Int) + ((lessR fs k k (n - k) : Nat) : Int) by rw [Hst.out k, Int.natCast_add, Int.natCast_mul])
      have Hcl := Lib.hid hcl
      have hkc : k < cap := by omega
      clear hc hcl
      generalize fs.getD k 0 = y at *
      generalize lessR fs k k (n - k) = q at *
      go_wp2_with fail
      refine Hcl.out.mono ?_
      rintro e w' ⟨rfl, rfl⟩
      go_wp2
      go_round
      case rel => exact ⟨k + 1, by omega, by go_num, by rw [Hfin.out]⟩
      case measure => simp [intOf]; omega
    · obtain rfl : k = n := by omega
      go_wp2
      go_ret2
      exact ⟨rfl, Hb1.out⟩

theorem impl_RankOf (fs : List Int) (v : Value) (w : World) (hn : fs.length ≤ 1048576) (h : Sl (Value.int .i64) 0 w v fs) :
    Calls Try.prog 28 #[v] w fun e w' => e = .returned (.tuple #[.int .i64 (res_RankOf fs), .bool (ok_RankOf fs)]) ∧ Below w.heap.size w w' := by
  by_cases h2 : deckB fs = true ∧ fs.length ≤ 20
  · obtain ⟨e1, e2⟩ := rank_yes fs h2.1 h2.2
    rw [e1, e2]
    exact rank_impl_yes fs v w h2.2 h h2.1
  · obtain ⟨e1, e2⟩ := rank_no fs h2
    rw [e1, e2]
    cases hd : deckB fs
    · have Hd := Lib.hid (deckI_no fs _ w hn h hd)
      obtain ⟨p, cap, rfl, hf⟩ := h
      clear hd e1 e2 hf h2
      go_enter Try.func28, Try.ntmps28
      go_wp2_with (first | (go_at_call 45; refine Hd.out.mono ?_; rintro e w' ⟨rfl, hb⟩; have Hb := Lib.hid hb; clear hb))
      go_ret2
      exact ⟨rfl, Hb.out⟩
    · have h3 : 20 < fs.length := by
        by_cases h4 : fs.length ≤ 20
        · exact absurd ⟨hd, h4⟩ h2
        · omega
      have Hd := Lib.hid (deckI_yes fs _ w hn h hd)
      obtain ⟨p, cap, rfl, hf⟩ := h
      clear hd e1 e2 hf h2
      go_enter Try.func28, Try.ntmps28
      go_wp2_with (first | (go_at_call 45; refine Hd.out.mono ?_; rintro e w' ⟨rfl, hb⟩; have Hb := Lib.hid hb; clear hb) | (go_at_call 51; refine (rsize_no _ _ (by omega)).mono ?_; rintro e w' ⟨rfl, rfl⟩))
      go_ret2
      exact ⟨rfl, Hb.out⟩
theorem spec_RankOf (fs : List Int) (v : Value) (w : World) (hn : fs.length ≤ 1048576) (h : Sl (Value.int .i64) 0 w v fs) :
    Calls Try.prog 27 #[v] w fun e w' => e = .returned (.tuple #[.int .i64 (res_RankOf fs), .bool (ok_RankOf fs)]) ∧ Below w.heap.size w w' := by
  by_cases h2 : deckB fs = true ∧ fs.length ≤ 20
  · obtain ⟨e1, e2⟩ := rank_yes fs h2.1 h2.2
    rw [e1, e2, rank_eq]
    have Hd := Lib.hid (deck_yes fs _ w hn h h2.1)
    have Hr := Lib.hid (fun (w1 : World) (g : Drawn w w1) => rank_spec fs v w1 h2.2 (deckB_len h2.1).1 (h.drawn g))
    have hl := h2.2
    obtain ⟨p, cap, rfl, hf⟩ := h
    clear e1 e2 hf h2
    go_enter Try.func27, Try.ntmps27
    go_wp2_with fail
    refine Hd.out.mono ?_
    rintro e w1 ⟨rfl, g1⟩
    have G1 := Lib.hid g1
    clear g1
    go_wp2_with fail
    refine (Hr.out w1 G1.out).mono ?_
    rintro e w2 ⟨rfl, g2⟩
    have G2 := Lib.hid (G1.out.trans g2)
    clear g2
    go_wp2
    go_ret2
    exact ⟨rfl, G2.out.below _⟩
  · obtain ⟨e1, e2⟩ := rank_no fs h2
    rw [e1, e2]
    cases hd : deckB fs
    · have Hd := Lib.hid (deck_no fs _ w hn h hd)
      obtain ⟨p, cap, rfl, hf⟩ := h
      clear hd e1 e2 hf h2
      go_enter Try.func27, Try.ntmps27
      go_wp2_with fail
      refine Hd.out.mono ?_
      rintro e w1 ⟨rfl, g1⟩
      have G1 := Lib.hid g1
      clear g1
      go_wp2
      go_ret2
      exact ⟨rfl, G1.out.below _⟩
    · have h3 : 20 < fs.length := by
        by_cases h4 : fs.length ≤ 20
        · exact absurd ⟨hd, h4⟩ h2
        · omega
      have Hd := Lib.hid (deck_yes fs _ w hn h hd)
      obtain ⟨p, cap, rfl, hf⟩ := h
      clear hd e1 e2 hf h2
      go_enter Try.func27, Try.ntmps27
      go_wp2_with fail
      refine Hd.out.mono ?_
      rintro e w1 ⟨rfl, g1⟩
      have G1 := Lib.hid g1
      clear g1
      go_wp2
      go_ret2
      exact ⟨rfl, G1.out.below _⟩
end Go.Proofs.Ytfjokclhbbndaab
