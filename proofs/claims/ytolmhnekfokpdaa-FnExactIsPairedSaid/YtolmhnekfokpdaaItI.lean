/- Contracts: IsPaired, the model. -/
import Derived.Test.YtolmhnekfokpdaaItH
set_option linter.unusedVariables false
namespace Go.Proofs.Ytolmhnekfokpdaa
open Go.RowKit Go.Shelf
attribute [local go_sem] Oper.semAt_some

set_option maxRecDepth 100000 in
set_option maxHeartbeats 4000000 in
theorem paired_spec (fs : List Int) (k : Nat) (v : Value) (w : World) (hn : fs.length ≤ 1048576) (h : Sl (Value.int .i64) 0 w v fs) (hd : deckB fs = true) (hk : 1 ≤ k) (hkl : k ≤ fs.length) (hq : fs.length % k = 0) :
    Calls Try.prog 15 #[v, .int .i64 (k : Int)] w fun e w' => e = .returned (.tuple #[.bool ((List.range (fs.length / k)).all (pairG fs k)), .bool true]) ∧ Drawn w w' := by
  obtain ⟨l1, l2, -⟩ := deckB_len hd
  have HD := Lib.hid (deck_yes fs v w hn h hd)
  have Hbd := Lib.hid (deckB_bd hd)
  have hf : fs.length = fs.length / k * k := by have := Nat.div_add_mod fs.length k; rw [Nat.mul_comm] at this; omega
  have Hbad := Lib.hid (fun i p hi => pair_bad fs k (fs.length / k) i p hk (hf ▸ hi : i < fs.length / k * k))
  have Hgood := Lib.hid (pair_good fs k (fs.length / k) hk)
  rw [← hf] at Hgood
  obtain ⟨p, cap, rfl, hh⟩ := h
  obtain ⟨hcap, b, off, rfl, hb, hc⟩ := hh (by omega)
  have Hc := Lib.hid hc
  generalize (List.range (fs.length / k)).all (pairG fs k) = R at *
  clear hh hc hf hd
  have hqv : (fs.length : Int) % (k : Int) = 0 := by exact_mod_cast hq
  generalize hL : fs.length = L at *
  clear hL hq
  have dz : ((k : Int) = 0) = False := eq_false (by omega)
  have Hin := Lib.hid (fun z => in_yes (k : Int) 1 (L : Int) z (by omega) (by omega))
  go_enter Try.func15, Try.ntmps15
  go_wp2_with (first | (go_at_call 48; refine HD.out.mono ?_; rintro e w1 ⟨rfl, hd1⟩; have Hd1 := Lib.hid hd1; clear hd1) | (go_at_call 49; refine (Hin.out _).mono ?_; rintro e w' ⟨rfl, rfl⟩))
  clear HD Hin
  go_loopw [7] (fun i wr => ∃ m : Nat, m ≤ L ∧ i = .int .i64 m ∧ Hid (∀ i, i < m → ∀ p, p < i → i - i % k ≤ p → ¬ fs.getD p 0 % (k : Int) = fs.getD i 0 % (k : Int)) ∧ Drawn w wr) (fun i _ => L - (intOf i).toNat)
  case atStart => exact ⟨0, Nat.zero_le _, rfl, fun j hj => absurd hj (by omega), Hd1.out⟩
  case round =>
    obtain ⟨m, hm, rfl, hp, hd⟩ := hrel
    have Hd := Lib.hid hd
    clear hd
    by_cases hlt : m < L
    · have hml := Nat.mod_le m k
      have hmm : (m : Int) % (k : Int) = ((m % k : Nat) : Int) := by simp
      have hwm : IntKind.i64.wrap ((m : Int) - (m : Int) % (k : Int)) = ((m - m % k : Nat) : Int) := by
        rw [hmm, IntWalk.i64_in _ (by omega)]
        omega
      obtain ⟨s, hs⟩ : ∃ s, s = m - m % k := ⟨_, rfl⟩
      rw [← hs] at hwm
      have hsm : s ≤ m := by omega
      clear hml hmm
      have hmod := Lib.hid (show m - m % k = s from hs.symm)
      clear hs
      have cm : wr.cell? ⟨b, off + m, none⟩ = some (.int .i64 (fs.getD m 0)) := by rw [Hd.out.cell]; exact Hc.out m hlt
      go_wp2
      go_loopw [8] (fun i wr => ∃ q : Nat, s ≤ q ∧ q ≤ m ∧ i = .int .i64 q ∧ Hid (∀ p, s ≤ p → p < q → ¬ fs.getD p 0 % (k : Int) = fs.getD m 0 % (k : Int)) ∧ Drawn w wr) (fun i _ => m - (intOf i).toNat)
      case atStart => exact ⟨s, Nat.le_refl _, hsm, rfl, fun p h1 h2 => absurd h1 (by omega), Hd.out⟩
      case round =>
        obtain ⟨q, hq1, hq2, rfl, hp2, hd2⟩ := hrel
        have Hd2 := Lib.hid hd2
        clear hd2
        by_cases hlq : q < m
        · have c1 : wr.cell? ⟨b, off + q, none⟩ = some (.int .i64 (fs.getD q 0)) := by rw [Hd2.out.cell]; exact Hc.out q (by omega)
          have c2 : wr.cell? ⟨b, off + m, none⟩ = some (.int .i64 (fs.getD m 0)) := by rw [Hd2.out.cell]; exact Hc.out m hlt
          have hx0 := (Hbd.out q (by omega)).1
          have hy0 := (Hbd.out m hlt).1
          by_cases he : fs.getD q 0 % (k : Int) = fs.getD m 0 % (k : Int)
          · have hR := Lib.hid (Hbad.out m q hlt hlq (by rw [hmod.out]; exact hq1) he)
            generalize fs.getD q 0 = x at *
            generalize fs.getD m 0 = y at *
            have hb : (x % (k : Int) == y % (k : Int)) = true := by rw [he]; simp
            go_wp2_with fail
            go_quiet (fail)
            go_wp2
            go_ret2
            rw [hR.out]
            exact ⟨rfl, Hd2.out.more _⟩
          · have HE := Lib.hid he
            obtain ⟨x, hx⟩ : ∃ x, x = fs.getD q 0 := ⟨_, rfl⟩
            obtain ⟨y, hy⟩ : ∃ y, y = fs.getD m 0 := ⟨_, rfl⟩
            rw [← hx, ← hy] at he
            rw [← hx] at c1 hx0
            rw [← hy] at c2 hy0
            clear hx hy
            have hb : (x % (k : Int) == y % (k : Int)) = false := by simpa using he
            clear he
            go_wp2_with fail
            go_quiet (fail)
            go_wp2
            go_roundw
            case rel => exact ⟨q + 1, by omega, by omega, by go_num, fun p h1 h2 => by
              by_cases e : p = q
              · subst e; exact HE.out
              · exact hp2.out p h1 (by omega), Hd2.out.more _⟩
            case measure => simp [intOf]; omega
        · obtain rfl : q = m := by omega
          go_wp2
          go_roundw
          case rel => exact ⟨q + 1, by omega, by go_num, fun i hi p hp' hpp => by
            by_cases e : i = q
            · subst e; exact hp2.out p (by rw [← hmod.out]; exact hpp) hp'
            · exact hp.out i (by omega) p hp' hpp, Hd2.out⟩
          case measure => simp [intOf]; omega
    · obtain rfl : m = L := by omega
      go_wp2
      go_ret2
      rw [Hgood.out hp.out]
      exact ⟨rfl, Hd.out⟩
end Go.Proofs.Ytolmhnekfokpdaa
