/- Contracts: a word in a ring. -/
import Derived.Test.YtfjokclhbbndaadGa
import Derived.RegionTactic
import Derived.BigQuiet
set_option linter.unusedVariables false
namespace Go.Proofs.Ytfjokclhbbndaad
open Go.RowKit

def ringAt (fs : List Int) (i k : Nat) : Int := fs.getD ((i + k) % fs.length) 0
def goodR (fs gs : List Int) (i : Nat) : Nat → Bool
  | 0 => true
  | k + 1 => goodR fs gs i k && (ringAt fs i k == gs.getD k 0)
def findW (fs gs : List Int) : Option Nat := (List.range fs.length).find? (fun i => goodR fs gs i gs.length)
def okWd (fs gs : List Int) : Bool := bitsB fs 64 && bitsB gs 6 && decide (gs.length ≤ fs.length)
def ok_WordAt (fs gs : List Int) : Bool := okWd fs gs && (findW fs gs).isSome
def res_WordAt (fs gs : List Int) : Int := if okWd fs gs = true then (((findW fs gs).getD 0 : Nat) : Int) else 0
theorem word_no (fs gs : List Int) (h : okWd fs gs = false) : ok_WordAt fs gs = false ∧ res_WordAt fs gs = 0 := by
  unfold ok_WordAt res_WordAt
  rw [h]; exact ⟨rfl, rfl⟩
theorem word_some (fs gs : List Int) (i n m : Nat) (hn : fs.length = n) (hm : gs.length = m) (h : okWd fs gs = true) (hi : i < n) (hg : goodR fs gs i m = true) (hb : ∀ j, j < i → goodR fs gs j m = false) : ok_WordAt fs gs = true ∧ res_WordAt fs gs = (i : Int) := by
  subst hn hm
  have e : findW fs gs = some i := by
    unfold findW
    rw [List.find?_range_eq_some]
    exact ⟨hg, List.mem_range.2 hi, fun j hj => by rw [hb j hj]; rfl⟩
  unfold ok_WordAt res_WordAt
  rw [h, e]; exact ⟨rfl, rfl⟩
theorem word_none (fs gs : List Int) (n m : Nat) (hn : fs.length = n) (hm : gs.length = m) (h : okWd fs gs = true) (hb : ∀ j, j < n → goodR fs gs j m = false) : ok_WordAt fs gs = false ∧ res_WordAt fs gs = 0 := by
  subst hn hm
  have e : findW fs gs = none := by
    unfold findW
    rw [List.find?_eq_none]
    intro j hj
    rw [hb j (List.mem_range.1 hj)]
    exact Bool.noConfusion
  unfold ok_WordAt res_WordAt
  rw [h, e]; exact ⟨rfl, rfl⟩
theorem good_step (fs gs : List Int) (i k : Nat) : goodR fs gs i (k + 1) = (goodR fs gs i k && (ringAt fs i k == gs.getD k 0)) := rfl
theorem tmod_nat (i k n : Nat) : Int.tmod ((i : Int) + (k : Int)) (n : Int) = (((i + k) % n : Nat) : Int) := rfl

set_option maxHeartbeats 4000000 in
theorem spec_WordAt (fs : List Int) (v : Value) (gs : List Int) (v2 : Value) (w : World) (hn : fs.length ≤ 1048576) (h : Sl (Value.int .i64) 0 w v fs) (hn2 : gs.length ≤ 1048576) (h2 : Sl (Value.int .i64) 0 w v2 gs) :
    Calls Try.prog 29 #[v, v2] w fun e w' => e = .returned (.tuple #[.int .i64 (res_WordAt fs gs), .bool (ok_WordAt fs gs)]) ∧ Below w.heap.size w w' := by
  have Hb1 := Lib.hid (fun z (hs : Sl (Value.int .i64) 0 z v fs) => bits_spec fs v 64 z (by omega) hn hs)
  have Hb2 := Lib.hid (fun z (hs : Sl (Value.int .i64) 0 z v2 gs) => bits_spec gs v2 6 z (by omega) hn2 hs)
  have Hs1 := Lib.hid h
  have Hs2 := Lib.hid h2
  obtain ⟨p, cap, rfl, hf⟩ := h
  obtain ⟨p2, cap2, rfl, hf2⟩ := h2
  have Hf := Lib.hid hf
  have Hf2 := Lib.hid hf2
  clear hf hf2
  by_cases hok : okWd fs gs = true
  · have hok' := hok
    unfold okWd at hok'
    simp only [Bool.and_eq_true, decide_eq_true_eq] at hok'
    obtain ⟨⟨k1, k2⟩, k3⟩ := hok'
    obtain ⟨l1, l2⟩ := bits_len _ _ k1
    obtain ⟨l3, l4⟩ := bits_len _ _ k2
    rw [k1] at Hb1
    rw [k2] at Hb2
    have Hy := Lib.hid (fun i h1 h2 h3 => word_some fs gs i fs.length gs.length rfl rfl hok h1 h2 h3)
    have Hno := Lib.hid (word_none fs gs fs.length gs.length rfl rfl hok)
    have Hst := Lib.hid (good_step fs gs)
    have Hg0 := Lib.hid (fun i => (show goodR fs gs i 0 = true from rfl))
    have Hra : Hid (∀ i k, ringAt fs i k = fs.getD ((i + k) % fs.length) 0) := Lib.hid (fun i k => rfl)
    clear hok k1 k2
    generalize hl : fs.length = n at *
    generalize hl2 : gs.length = m at *
    clear hl hl2
    have d1 : decide ((n : Int) < (m : Int)) = false := decide_eq_false (by omega)
    have d3 : decide (n < m) = false := decide_eq_false (by omega)
    go_enter Try.func29, Try.ntmps29
    go_wp2_with fail
    refine (Hb1.out _ Hs1.out).mono ?_
    rintro e w' ⟨rfl, rfl⟩
    go_wp2_with fail
    refine (Hb2.out _ Hs2.out).mono ?_
    rintro e w' ⟨rfl, rfl⟩
    go_wp2
    go_loopw [6] (fun i wr => ∃ q : Nat, q ≤ n ∧ i = .int .i64 (q : Int) ∧ Hid (∀ j, j < q → goodR fs gs j m = false) ∧ Drawn w wr) (fun i _ => n - (intOf i).toNat)
    case atStart => exact ⟨0, Nat.zero_le _, rfl, fun j hj => absurd hj (by omega), Drawn.refl _⟩
    case round =>
      obtain ⟨q, hq, rfl, hp, hd⟩ := hrel
      have Hd := Lib.hid hd
      clear hd
      by_cases hlt : q < n
      · go_wp2
        go_loopw [7, 8] (fun g i wz => ∃ k : Nat, k ≤ m ∧ i = .int .i64 (k : Int) ∧ g = .bool (goodR fs gs q k) ∧ Drawn w wz) (fun _ i _ => m - (intOf i).toNat)
        case atStart => exact ⟨0, Nat.zero_le _, rfl, by rw [Hg0.out], Hd.out⟩
        case round =>
          obtain ⟨k, hk, rfl, rfl, hd2⟩ := hrel
          have Hd2 := Lib.hid hd2
          clear hd2
          by_cases hlt2 : k < m
          · obtain ⟨hcap, b, off, rfl, hbs, hc⟩ := Hf.out (by omega)
            obtain ⟨hcap2, b2, off2, rfl, hbs2, hc2⟩ := Hf2.out (by omega)
            have hr : (q + k) % n < n := Nat.mod_lt _ (by omega)
            have c1 := hc ((q + k) % n) hr
            have c2 := hc2 k hlt2
            have c1' := (Hd2.out.cell ⟨b, off + (q + k) % n, none⟩).trans c1
            have c2' := (Hd2.out.cell ⟨b2, off2 + k, none⟩).trans c2
            clear c1 c2 hc hc2
            have hst := Hst.out q k
            rw [Hra.out q k] at hst
            have ht := tmod_nat q k n
            generalize (q + k) % n = r at *
            generalize fs.getD r 0 = x at *
            generalize gs.getD k 0 = y at *
            have Hst' := Lib.hid hst
            clear hst
            have hw1 : IntKind.i64.wrap ((q : Int) + (k : Int)) = (q : Int) + (k : Int) := IntWalk.i64_in _ (by omega)
            cases hG : goodR fs gs q k
            · have HG := Lib.hid hG
              clear hG
              go_wp2_with fail
              go_quiet (fail)
              go_wp2
              go_roundw
              case rel => exact ⟨k + 1, by omega, by go_num, by rw [Hst'.out, HG.out]; rfl, Hd2.out.more _⟩
              case measure => simp [intOf]; omega
            · have HG := Lib.hid hG
              clear hG
              cases hE : (x == y)
              all_goals
                have HE := Lib.hid hE
                go_wp2_with fail
                go_quiet (fail)
                go_wp2
                go_roundw
                case rel => exact ⟨k + 1, by omega, by go_num, by rw [Hst'.out, HG.out, HE.out]; rfl, Hd2.out.more _⟩
                case measure => simp [intOf]; omega
          · obtain rfl : k = m := by omega
            cases hG : goodR fs gs q k
            · have HG := Lib.hid hG
              clear hG
              go_wp2
              go_roundw
              case rel => exact ⟨q + 1, by omega, by go_num, Lib.hid fun j hj => by
                by_cases e : j = q
                · subst e; exact HG.out
                · exact hp.out j (by omega), Hd2.out⟩
              case measure => simp [intOf]; omega
            · obtain ⟨e1, e2⟩ := Hy.out q hlt hG hp.out
              have E1 := Lib.hid e1
              have E2 := Lib.hid e2
              clear e1 e2 hG
              go_wp2
              go_ret2
              exact ⟨by rw [E1.out, E2.out]; rfl, Hd2.out.below _⟩
      · obtain rfl : q = n := by omega
        obtain ⟨e1, e2⟩ := Hno.out hp.out
        have E1 := Lib.hid e1
        have E2 := Lib.hid e2
        clear e1 e2
        go_wp2
        go_ret2
        exact ⟨by rw [E1.out, E2.out]; rfl, Hd.out.below _⟩
  · have hno : okWd fs gs = false := by simpa using hok
    obtain ⟨e1, e2⟩ := word_no fs gs hno
    rw [e1, e2]
    clear e1 e2 hok
    cases k1 : bitsB fs 64
    · rw [k1] at Hb1
      clear hno k1
      go_enter Try.func29, Try.ntmps29
      go_wp2_with fail
      refine (Hb1.out _ Hs1.out).mono ?_
      rintro e w' ⟨rfl, rfl⟩
      go_wp2
      go_ret2
      exact ⟨rfl, Below.refl _ _⟩
    · rw [k1] at Hb1
      cases k2 : bitsB gs 6
      · rw [k2] at Hb2
        clear hno k1 k2
        go_enter Try.func29, Try.ntmps29
        go_wp2_with fail
        refine (Hb1.out _ Hs1.out).mono ?_
        rintro e w' ⟨rfl, rfl⟩
        go_wp2_with fail
        refine (Hb2.out _ Hs2.out).mono ?_
        rintro e w' ⟨rfl, rfl⟩
        go_wp2
        go_ret2
        exact ⟨rfl, Below.refl _ _⟩
      · have h3 : fs.length < gs.length := by
          unfold okWd at hno
          rw [k1, k2] at hno
          simp only [Bool.true_and, decide_eq_false_iff_not] at hno
          omega
        rw [k2] at Hb2
        clear hno k1 k2
        have d1 : decide ((fs.length : Int) < (gs.length : Int)) = true := decide_eq_true (by omega)
        have d3 : decide (fs.length < gs.length) = true := decide_eq_true (by omega)
        go_enter Try.func29, Try.ntmps29
        go_wp2_with fail
        refine (Hb1.out _ Hs1.out).mono ?_
        rintro e w' ⟨rfl, rfl⟩
        go_wp2_with fail
        refine (Hb2.out _ Hs2.out).mono ?_
        rintro e w' ⟨rfl, rfl⟩
        go_wp2
        go_ret2
        exact ⟨rfl, Below.refl _ _⟩
end Go.Proofs.Ytfjokclhbbndaad
