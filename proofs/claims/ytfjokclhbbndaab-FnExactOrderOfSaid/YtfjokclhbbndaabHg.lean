/- Contracts: cycles and signs of a deck, in both texts. -/
import Derived.Test.YtfjokclhbbndaabHe
import Derived.Test.YtfjokclhbbndaabHf
set_option linter.unusedVariables false
namespace Go.Proofs.Ytfjokclhbbndaab
open Go.RowKit

def ok_CyclesOf (fs : List Int) : Bool := deckB fs
def res_CyclesOf (fs : List Int) : List Int := if deckB fs = true then sortI (cycL fs fs.length) else []
theorem cyc_yes (fs : List Int) (h : deckB fs = true) : ok_CyclesOf fs = true ∧ res_CyclesOf fs = sortI (cycL fs fs.length) := ⟨h, if_pos h⟩
theorem cyc_no (fs : List Int) (h : deckB fs = false) : ok_CyclesOf fs = false ∧ res_CyclesOf fs = [] := ⟨h, if_neg (by rw [h]; exact Bool.false_ne_true)⟩
theorem len_CyclesOf (fs : List Int) : (res_CyclesOf fs).length ≤ 1048576 := by
  cases h : deckB fs
  · rw [(cyc_no fs h).2]; exact Nat.zero_le _
  · rw [(cyc_yes fs h).2, sortI_len]
    have := cycL_len fs fs.length
    have := (deckB_len h).2.1
    omega
theorem impl_CyclesOf (fs : List Int) (v : Value) (w : World) (hn : fs.length ≤ 1048576) (h : Sl (Value.int .i64) 0 w v fs) :
    Calls Try.prog 22 #[v] w fun e w' => ∃ r, e = .returned (.tuple #[r, .bool (ok_CyclesOf fs)]) ∧ Sw (Value.int .i64) 0 w' r (res_CyclesOf fs) w.heap.size w'.heap.size ∧ Below w.heap.size w w' := by
  cases hd : deckB fs
  · obtain ⟨e1, e2⟩ := cyc_no fs hd
    rw [e1, e2]
    have Hd := Lib.hid (deckI_no fs v w hn h hd)
    obtain ⟨p, cap, rfl, hf⟩ := h
    clear hd e1 e2 hf
    go_enter Try.func22, Try.ntmps22
    go_wp2
    go_step3
    go_wp2_with fail
    refine Hd.out.mono ?_
    rintro e w1 ⟨rfl, hb⟩
    have Hb := Lib.hid hb
    clear hb
    go_wp2
    try rw [Exit.noGoto_ret]
    go_ret2
    exact ⟨_, rfl, Sw.nil _ _ _ _ _ _ _, Hb.out⟩
  · obtain ⟨e1, e2⟩ := cyc_yes fs hd
    rw [e1, e2]
    exact cyc_impl (Lib.hid sort_ok) fs v w hn h hd
theorem spec_CyclesOf (fs : List Int) (v : Value) (w : World) (hn : fs.length ≤ 1048576) (h : Sl (Value.int .i64) 0 w v fs) :
    Calls Try.prog 21 #[v] w fun e w' => ∃ r, e = .returned (.tuple #[r, .bool (ok_CyclesOf fs)]) ∧ Sw (Value.int .i64) 0 w' r (res_CyclesOf fs) w.heap.size w'.heap.size ∧ Below w.heap.size w w' := by
  have Hs := Lib.hid h
  obtain ⟨p, cap, rfl, hf⟩ := h
  clear hf
  cases hd : deckB fs
  · obtain ⟨e1, e2⟩ := cyc_no fs hd
    rw [e1, e2]
    have Hd := Lib.hid (deck_no fs _ w hn Hs.out hd)
    clear hd e1 e2
    go_enter Try.func21, Try.ntmps21
    go_wp2_with fail
    refine Hd.out.mono ?_
    rintro e w1 ⟨rfl, m, rfl⟩
    go_wp2
    go_ret2
    exact ⟨_, rfl, Sw.nil _ _ _ _ _ _ _, below_drewN (Below.refl _ _) _⟩
  · obtain ⟨e1, e2⟩ := cyc_yes fs hd
    rw [e1, e2]
    have Hd := Lib.hid (deck_yes fs _ w hn Hs.out hd)
    have Hp := Lib.hid (fun (w1 : World) (g : Drawn w w1) => cyc_spec fs _ w1 hn (Hs.out.drawn g) hd)
    clear hd e1 e2
    go_enter Try.func21, Try.ntmps21
    go_wp2_with fail
    refine Hd.out.mono ?_
    rintro e w1 ⟨rfl, g1⟩
    have G1 := Lib.hid g1
    clear g1
    go_wp2_with fail
    refine (Hp.out w1 G1.out).mono ?_
    rintro e w2 ⟨r, rfl, hs, hb⟩
    have Hr := Lib.hid hs
    have Hb := Lib.hid hb
    clear hs hb
    go_wp2
    go_ret2
    have e := G1.out.heap
    exact ⟨_, rfl, by rw [← e]; exact Hr.out, (G1.out.below _).trans (Hb.out.mono (by rw [e]; exact Nat.le_refl _))⟩
end Go.Proofs.Ytfjokclhbbndaab
