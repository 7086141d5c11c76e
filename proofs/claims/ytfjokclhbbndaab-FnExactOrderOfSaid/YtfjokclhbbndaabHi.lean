/- Contracts: the sign of a deck, in both texts. -/
import Derived.Test.YtfjokclhbbndaabHg
set_option linter.unusedVariables false
namespace Go.Proofs.Ytfjokclhbbndaab
open Go.RowKit

def cycN (fs : List Int) : Nat := (cycL fs fs.length).length
def ok_SignOf (fs : List Int) : Bool := deckB fs
def res_SignOf (fs : List Int) : Int := if deckB fs = true then (if (fs.length - cycN fs) % 2 = 0 then 1 else -1) else 0
theorem sign_no (fs : List Int) (h : deckB fs = false) : ok_SignOf fs = false ∧ res_SignOf fs = 0 := ⟨h, if_neg (by rw [h]; exact Bool.false_ne_true)⟩
theorem sign_even (fs : List Int) (h : deckB fs = true) (he : (fs.length - cycN fs) % 2 = 0) : ok_SignOf fs = true ∧ res_SignOf fs = 1 := ⟨h, by unfold res_SignOf; rw [if_pos h, if_pos he]⟩
theorem sign_odd (fs : List Int) (h : deckB fs = true) (he : ¬ (fs.length - cycN fs) % 2 = 0) : ok_SignOf fs = true ∧ res_SignOf fs = -1 := ⟨h, by unfold res_SignOf; rw [if_pos h, if_neg he]⟩
theorem cycN_le (fs : List Int) : cycN fs ≤ fs.length := cycL_len fs fs.length

theorem impl_SignOf (fs : List Int) (v : Value) (w : World) (hn : fs.length ≤ 1048576) (h : Sl (Value.int .i64) 0 w v fs) :
    Calls Try.prog 26 #[v] w fun e w' => e = .returned (.tuple #[.int .i64 (res_SignOf fs), .bool (ok_SignOf fs)]) ∧ Below w.heap.size w w' := by
  have Hi := Lib.hid (impl_CyclesOf fs v w hn h)
  obtain ⟨p, cap, rfl, hf⟩ := h
  clear hf
  cases hd : deckB fs
  · obtain ⟨e1, e2⟩ := sign_no fs hd
    rw [e1, e2]
    rw [(cyc_no fs hd).1, (cyc_no fs hd).2] at Hi
    clear hd e1 e2
    go_enter Try.func26, Try.ntmps26
    go_wp2_with fail
    refine Hi.out.mono ?_
    rintro e w1 ⟨r, rfl, -, hb⟩
    have Hb := Lib.hid hb
    clear hb
    go_wp2
    go_ret2
    exact ⟨rfl, Hb.out⟩
  · rw [(cyc_yes fs hd).1, (cyc_yes fs hd).2] at Hi
    have Hm := Lib.hid (show (sortI (cycL fs fs.length)).length = cycN fs from sortI_len _)
    have hle := cycN_le fs
    have h52 := (deckB_len hd).2.1
    by_cases he : (fs.length - cycN fs) % 2 = 0
    · obtain ⟨e1, e2⟩ := sign_even fs hd he
      rw [e1, e2]
      clear e1 e2 hd
      generalize cycN fs = m at *
      generalize fs.length = n at *
      have hpar : ((n : Int) - (m : Int)) % 2 = 0 := by omega
      go_enter Try.func26, Try.ntmps26
      go_wp2_with fail
      refine Hi.out.mono ?_
      rintro e w1 ⟨r, rfl, hs, hb⟩
      have Hb := Lib.hid hb
      clear hb
      obtain ⟨pr, capr, rfl, -⟩ := hs
      rw [Hm.out]
      go_wp2
      go_ret2
      exact ⟨rfl, Hb.out⟩
    · obtain ⟨e1, e2⟩ := sign_odd fs hd he
      rw [e1, e2]
      clear e1 e2 hd
      generalize cycN fs = m at *
      generalize fs.length = n at *
      have hpar : ((n : Int) - (m : Int)) % 2 = 1 := by omega
      go_enter Try.func26, Try.ntmps26
      go_wp2_with fail
      refine Hi.out.mono ?_
      rintro e w1 ⟨r, rfl, hs, hb⟩
      have Hb := Lib.hid hb
      clear hb
      obtain ⟨pr, capr, rfl, -⟩ := hs
      rw [Hm.out]
      go_wp2
      go_ret2
      exact ⟨rfl, Hb.out⟩

theorem spec_SignOf (fs : List Int) (v : Value) (w : World) (hn : fs.length ≤ 1048576) (h : Sl (Value.int .i64) 0 w v fs) :
    Calls Try.prog 25 #[v] w fun e w' => e = .returned (.tuple #[.int .i64 (res_SignOf fs), .bool (ok_SignOf fs)]) ∧ Below w.heap.size w w' := by
  have Hs := Lib.hid h
  obtain ⟨p, cap, rfl, hf⟩ := h
  clear hf
  cases hd : deckB fs
  · obtain ⟨e1, e2⟩ := sign_no fs hd
    rw [e1, e2]
    have Hd := Lib.hid (deck_no fs _ w hn Hs.out hd)
    clear hd e1 e2
    go_enter Try.func25, Try.ntmps25
    go_wp2_with fail
    refine Hd.out.mono ?_
    rintro e w1 ⟨rfl, m, rfl⟩
    go_wp2
    go_ret2
    exact ⟨rfl, below_drewN (Below.refl _ _) _⟩
  · have Hd := Lib.hid (deck_yes fs _ w hn Hs.out hd)
    have Hp := Lib.hid (fun (w1 : World) (g : Drawn w w1) => cyc_spec fs _ w1 hn (Hs.out.drawn g) hd)
    have Hm := Lib.hid (show (sortI (cycL fs fs.length)).length = cycN fs from sortI_len _)
    have hle := cycN_le fs
    have h52 := (deckB_len hd).2.1
    by_cases he : (fs.length - cycN fs) % 2 = 0
    · obtain ⟨e1, e2⟩ := sign_even fs hd he
      rw [e1, e2]
      clear e1 e2 hd
      generalize cycN fs = m at *
      generalize fs.length = n at *
      have hpar : ((n : Int) - (m : Int)) % 2 = 0 := by omega
      go_enter Try.func25, Try.ntmps25
      go_wp2_with fail
      refine Hd.out.mono ?_
      rintro e w1 ⟨rfl, g1⟩
      have G1 := Lib.hid g1
      clear g1
      go_wp2_with fail
      refine (Hp.out w1 G1.out).mono ?_
      rintro e w2 ⟨r, rfl, hs, hb⟩
      have Hb := Lib.hid hb
      clear hb
      obtain ⟨pr, capr, rfl, -⟩ := hs
      rw [Hm.out]
      go_wp2
      go_ret2
      have e := G1.out.heap
      exact ⟨rfl, (G1.out.below _).trans (Hb.out.mono (by rw [e]; exact Nat.le_refl _))⟩
    · obtain ⟨e1, e2⟩ := sign_odd fs hd he
      rw [e1, e2]
      clear e1 e2 hd
      generalize cycN fs = m at *
      generalize fs.length = n at *
      have hpar : ((n : Int) - (m : Int)) % 2 = 1 := by omega
      go_enter Try.func25, Try.ntmps25
      go_wp2_with fail
      refine Hd.out.mono ?_
      rintro e w1 ⟨rfl, g1⟩
      have G1 := Lib.hid g1
      clear g1
      go_wp2_with fail
      refine (Hp.out w1 G1.out).mono ?_
      rintro e w2 ⟨r, rfl, hs, hb⟩
      have Hb := Lib.hid hb
      clear hb
      obtain ⟨pr, capr, rfl, -⟩ := hs
      rw [Hm.out]
      go_wp2
      go_ret2
      have e := G1.out.heap
      exact ⟨rfl, (G1.out.below _).trans (Hb.out.mono (by rw [e]; exact Nat.le_refl _))⟩
end Go.Proofs.Ytfjokclhbbndaab
