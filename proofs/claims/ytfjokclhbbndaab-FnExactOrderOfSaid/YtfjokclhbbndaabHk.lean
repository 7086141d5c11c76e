/- Contracts: the order of a deck, in both texts. -/
import Derived.Test.YtfjokclhbbndaabHj
import Derived.Test.YtfjokclhbbndaabHi
import Derived.Test.YtfjokclhbbndaabFa
import Derived.RegionTactic
import Derived.BigQuiet
set_option linter.unusedVariables false
namespace Go.Proofs.Ytfjokclhbbndaab
open Go.RowKit

theorem cyc_el (fs : List Int) (i : Nat) (x : Int) (h : x ∈ cycL fs i) : ∃ p : Nat, x = ((p + 1 : Nat) : Int) := by
  unfold cycL at h
  obtain ⟨j, _, rfl⟩ := List.mem_map.1 h
  exact ⟨_, rfl⟩
theorem cycS_len (fs : List Int) : (cycS fs).length = (sortI (cycL fs fs.length)).length := List.length_map ..
theorem cycS_at (fs : List Int) (k : Nat) (hk : k < (sortI (cycL fs fs.length)).length) : (sortI (cycL fs fs.length)).getD k 0 = (((cycS fs).getD k 0 : Nat) : Int) ∧ 1 ≤ (cycS fs).getD k 0 := by
  obtain ⟨p, hp⟩ := cyc_el fs fs.length _ ((sortI_perm _).mem_iff.1 (List.getElem_mem hk))
  have hk2 : k < (cycS fs).length := by rw [cycS_len]; exact hk
  have e : (cycS fs).getD k 0 = p + 1 := by
    have e0 : (cycS fs).getD k 0 = ((sortI (cycL fs fs.length))[k]).toNat := by
      unfold cycS
      simp [List.getD, List.getElem?_map, List.getElem?_eq_getElem hk]
    rw [e0, hp]; rfl
  rw [getD_lt _ 0 k hk, hp, e]
  exact ⟨rfl, by omega⟩
theorem cycS_le {fs : List Int} (h : deckB fs = true) (k : Nat) (hk : k < (cycS fs).length) : (cycS fs).getD k 0 ≤ 52 := by
  have h1 := take_sum (cycS fs) (k + 1)
  have h3 := cycS_sum h
  have h4 := (deckB_len h).2.1
  rw [← List.take_append_getElem hk, List.sum_append] at h1
  simp only [List.sum_cons, List.sum_nil, Nat.add_zero] at h1
  rw [show (cycS fs).getD k 0 = (cycS fs)[k] by simp [List.getD, hk]]
  omega
theorem ordN_pos (fs : List Int) : ∀ k, k ≤ (sortI (cycL fs fs.length)).length → 1 ≤ ordN (cycS fs) k
  | 0, _ => Nat.le_refl _
  | k + 1, hk => by
    have ih := ordN_pos fs k (by omega)
    have hc := (cycS_at fs k (by omega)).2
    have hg := Nat.gcd_pos_of_pos_right (ordN (cycS fs) k) (show 0 < (cycS fs).getD k 0 by omega)
    have hd : 0 < (cycS fs).getD k 0 / Nat.gcd (ordN (cycS fs) k) ((cycS fs).getD k 0) := Nat.div_pos (Nat.gcd_le_right _ (by omega)) hg
    exact Nat.mul_pos ih hd

def ok_OrderOf (fs : List Int) : Bool := deckB fs
def res_OrderOf (fs : List Int) : Int := if deckB fs = true then ((ordN (cycS fs) (cycS fs).length : Nat) : Int) else 0
theorem order_no (fs : List Int) (h : deckB fs = false) : ok_OrderOf fs = false ∧ res_OrderOf fs = 0 := ⟨h, if_neg (by rw [h]; exact Bool.false_ne_true)⟩
theorem order_yes (fs : List Int) (h : deckB fs = true) : ok_OrderOf fs = true ∧ res_OrderOf fs = ((ordN (cycS fs) (cycS fs).length : Nat) : Int) := ⟨h, if_pos h⟩

set_option maxHeartbeats 2000000 in
theorem impl_OrderOf (fs : List Int) (v : Value) (w : World) (hn : fs.length ≤ 1048576) (h : Sl (Value.int .i64) 0 w v fs) :
    Calls Try.prog 24 #[v] w fun e w' => e = .returned (.tuple #[.int .i64 (res_OrderOf fs), .bool (ok_OrderOf fs)]) ∧ Below w.heap.size w w' := by
  have Hi := Lib.hid (impl_CyclesOf fs v w hn h)
  obtain ⟨p, cap, rfl, hf⟩ := h
  clear hf
  cases hd : deckB fs
  · obtain ⟨e1, e2⟩ := order_no fs hd
    rw [e1, e2]
    rw [(cyc_no fs hd).1, (cyc_no fs hd).2] at Hi
    clear hd e1 e2
    go_enter Try.func24, Try.ntmps24
    go_wp2_with fail
    refine Hi.out.mono ?_
    rintro e w1 ⟨r, rfl, -, hb⟩
    have Hb := Lib.hid hb
    clear hb
    go_wp2
    go_ret2
    exact ⟨rfl, Hb.out⟩
  · rw [(cyc_yes fs hd).1, (cyc_yes fs hd).2] at Hi
    obtain ⟨e1, e2⟩ := order_yes fs hd
    rw [e1, e2]
    clear e1 e2
    have Hat := Lib.hid (cycS_at fs)
    have Hle := Lib.hid (fun k hk => cycS_le hd k hk)
    have Hpos := Lib.hid (ordN_pos fs)
    have H52 := Lib.hid (fun k => ordN_52 hd k)
    have Hst := Lib.hid (fun k => (show ordN (cycS fs) (k + 1) = ordN (cycS fs) k * ((cycS fs).getD k 0 / Nat.gcd (ordN (cycS fs) k) ((cycS fs).getD k 0)) from rfl))
    have Hsa := Lib.hid (ordN_alt (cycS fs))
    have hml : (cycS fs).length ≤ 52 := by
      rw [cycS_len, sortI_len]
      exact Nat.le_trans (cycL_len fs fs.length) (deckB_len hd).2.1
    rw [cycS_len] at hml ⊢
    rw [cycS_len] at Hle
    clear hd
    go_enter Try.func24, Try.ntmps24
    go_wp2_with fail
    refine Hi.out.mono ?_
    rintro e w1 ⟨r, rfl, hs, hb⟩
    have Hb := Lib.hid hb
    clear hb
    obtain ⟨pr, capr, rfl, hfr⟩ := hs
    have hs : Sw (Value.int .i64) 0 w1 (.slice pr (sortI (cycL fs fs.length)).length capr) (sortI (cycL fs fs.length)) w.heap.size w1.heap.size := ⟨pr, capr, rfl, hfr⟩
    have Hs := Lib.hid hs
    clear hs hfr
    generalize hL : sortI (cycL fs fs.length) = L at *
    generalize hS : cycS fs = S at *
    have HLL := Lib.hid hL
    have HSS := Lib.hid hS
    clear hL hS
    generalize hm : L.length = m at *
    have HM := Lib.hid hm
    clear hm
    go_wp2
    go_loopw [6, 18] (fun o i wr => ∃ k : Nat, k ≤ m ∧ i = .int .i64 (k : Int) ∧ o = .int .i64 ((ordN S k : Nat) : Int) ∧ Drawn w1 wr) (fun _ i _ => m - (intOf i).toNat)
    case atStart => exact ⟨0, Nat.zero_le _, rfl, rfl, Drawn.refl _⟩
    case round =>
      obtain ⟨k, hk, rfl, rfl, hdw⟩ := hrel
      by_cases hlt : k < m
      · have a0 : True := trivial
        obtain ⟨b, off, rfl, -, -, c1, -⟩ := Hs.out.open' k (by rw [HM.out]; exact hlt)
        have c1' := (hdw.cell ⟨b, off + k, none⟩).trans c1
        obtain ⟨a1, a2⟩ := Hat.out k hlt
        rw [a1] at c1'
        have a3 := Hle.out k hlt
        have a4 := Hpos.out k (by omega)
        have a5 := H52.out k
        have a6 := H52.out (k + 1)
        have Hd := Lib.hid hdw
        rw [Hst.out k] at a6
        have Hn := Lib.hid (Hst.out k)
        clear hdw c1
        generalize ordN S k = a at *
        generalize S.getD k 0 = c at *
        have Hg := Lib.hid (fun z => gcd_impl a c z (by omega) (by omega))
        have hg1 := Nat.gcd_pos_of_pos_right a (show 0 < c by omega)
        have hg2 := Nat.gcd_le_right a (show 0 < c by omega)
        have hq : (c : Int) / ((Nat.gcd a c : Nat) : Int) = ((c / Nat.gcd a c : Nat) : Int) := rfl
        have hq3 : c / Nat.gcd a c ≤ c := Nat.div_le_self _ _
        generalize Nat.gcd a c = g at *
        generalize c / g = q at *
        have b0 : 0 ≤ (a : Int) * (q : Int) ∧ (a : Int) * (q : Int) ≤ 4503599627370496 := by
          rw [show (a : Int) * (q : Int) = ((a * q : Nat) : Int) by rw [Int.natCast_mul]]; omega
        obtain ⟨b0, b1⟩ := b0
        clear a6
        go_wp2_with fail
        refine (Hg.out _).mono ?_
        rintro e w3 ⟨rfl, hd3⟩
        have Hd3 := Lib.hid (Hd.out.trans hd3)
        clear hd3
        go_wp2
        go_roundw
        case rel => exact ⟨k + 1, by omega, by go_num, by rw [Hn.out, Int.natCast_mul], Hd3.out⟩
        case measure => simp [intOf]; omega
      · obtain rfl : k = m := by omega
        go_wp2
        go_ret2
        exact ⟨by rw [HSS.out, HLL.out, HM.out]; rfl, Hb.out.trans (hdw.below _)⟩

set_option maxHeartbeats 2000000 in
theorem spec_OrderOf (fs : List Int) (v : Value) (w : World) (hn : fs.length ≤ 1048576) (h : Sl (Value.int .i64) 0 w v fs) :
    Calls Try.prog 23 #[v] w fun e w' => e = .returned (.tuple #[.int .i64 (res_OrderOf fs), .bool (ok_OrderOf fs)]) ∧ Below w.heap.size w w' := by
  have Hsl := Lib.hid h
  obtain ⟨p, cap, rfl, hf⟩ := h
  clear hf
  cases hd : deckB fs
  · obtain ⟨e1, e2⟩ := order_no fs hd
    rw [e1, e2]
    have Hd := Lib.hid (deck_no fs _ w hn Hsl.out hd)
    clear hd e1 e2
    go_enter Try.func23, Try.ntmps23
    go_wp2_with fail
    refine Hd.out.mono ?_
    rintro e w1 ⟨rfl, m, rfl⟩
    go_wp2
    go_ret2
    exact ⟨rfl, below_drewN (Below.refl _ _) _⟩
  · have Hd := Lib.hid (deck_yes fs _ w hn Hsl.out hd)
    have Hp := Lib.hid (fun (w1 : World) (g : Drawn w w1) => cyc_spec fs _ w1 hn (Hsl.out.drawn g) hd)
    obtain ⟨e1, e2⟩ := order_yes fs hd
    rw [e1, e2]
    clear e1 e2
    have Hat := Lib.hid (cycS_at fs)
    have Hle := Lib.hid (fun k hk => cycS_le hd k hk)
    have Hpos := Lib.hid (ordN_pos fs)
    have H52 := Lib.hid (fun k => ordN_52 hd k)
    have Hst := Lib.hid (fun k => (show ordN (cycS fs) (k + 1) = ordN (cycS fs) k * ((cycS fs).getD k 0 / Nat.gcd (ordN (cycS fs) k) ((cycS fs).getD k 0)) from rfl))
    have Hsa := Lib.hid (ordN_alt (cycS fs))
    have hml : (cycS fs).length ≤ 52 := by
      rw [cycS_len, sortI_len]
      exact Nat.le_trans (cycL_len fs fs.length) (deckB_len hd).2.1
    rw [cycS_len] at hml ⊢
    rw [cycS_len] at Hle
    clear hd
    go_enter Try.func23, Try.ntmps23
    go_wp2_with fail
    refine Hd.out.mono ?_
    rintro e w0 ⟨rfl, g1⟩
    have G1 := Lib.hid g1
    have hz0 := g1.heap
    clear g1
    go_wp2_with fail
    refine (Hp.out w0 G1.out).mono ?_
    rintro e w1 ⟨r, rfl, hs, hb⟩
    have Hb := Lib.hid hb
    clear hb
    obtain ⟨pr, capr, rfl, hfr⟩ := hs
    have hs : Sw (Value.int .i64) 0 w1 (.slice pr (sortI (cycL fs fs.length)).length capr) (sortI (cycL fs fs.length)) w0.heap.size w1.heap.size := ⟨pr, capr, rfl, hfr⟩
    have Hs := Lib.hid hs
    clear hs hfr
    generalize hL : sortI (cycL fs fs.length) = L at *
    generalize hS : cycS fs = S at *
    have HLL := Lib.hid hL
    have HSS := Lib.hid hS
    clear hL hS
    generalize hm : L.length = m at *
    have HM := Lib.hid hm
    clear hm
    go_wp2
    go_loopw [5, 6] (fun o i wr => ∃ k : Nat, k ≤ m ∧ i = .int .i64 (k : Int) ∧ o = .int .i64 ((ordN S k : Nat) : Int) ∧ Drawn w1 wr) (fun _ i _ => m - (intOf i).toNat)
    case atStart => exact ⟨0, Nat.zero_le _, rfl, rfl, Drawn.refl _⟩
    case round =>
      obtain ⟨k, hk, rfl, rfl, hdw⟩ := hrel
      by_cases hlt : k < m
      · have a0 : True := trivial
        obtain ⟨b, off, rfl, -, -, c1, -⟩ := Hs.out.open' k (by rw [HM.out]; exact hlt)
        have c1' := (hdw.cell ⟨b, off + k, none⟩).trans c1
        obtain ⟨a1, a2⟩ := Hat.out k hlt
        rw [a1] at c1'
        have a3 := Hle.out k hlt
        have a4 := Hpos.out k (by omega)
        have a5 := H52.out k
        have a6 := H52.out (k + 1)
        have Hd := Lib.hid hdw
        rw [Hsa.out k] at a6
        have Hn := Lib.hid (Hsa.out k)
        clear hdw c1
        generalize ordN S k = a at *
        generalize S.getD k 0 = c at *
        have Hg := Lib.hid (fun z => gcd_spec a c z (by omega) (by omega))
        have hg1 := Nat.gcd_pos_of_pos_right a (show 0 < c by omega)
        have hq : Int.tdiv (a : Int) ((Nat.gcd a c : Nat) : Int) = ((a / Nat.gcd a c : Nat) : Int) := rfl
        have hq2 : (a : Int) / ((Nat.gcd a c : Nat) : Int) = ((a / Nat.gcd a c : Nat) : Int) := rfl
        have hq3 : a / Nat.gcd a c ≤ a := Nat.div_le_self _ _
        have hg2 := Nat.gcd_le_right a (show 0 < c by omega)
        generalize Nat.gcd a c = g at *
        generalize a / g = q at *
        have b0 : 0 ≤ (q : Int) * (c : Int) ∧ (q : Int) * (c : Int) ≤ 4503599627370496 := by
          rw [show (q : Int) * (c : Int) = ((q * c : Nat) : Int) by rw [Int.natCast_mul]]; omega
        obtain ⟨b0, b1⟩ := b0
        have hw1 : IntKind.i64.wrap ((q : Int) * (c : Int)) = (q : Int) * (c : Int) := IntWalk.i64_in _ (by omega)
        have hw2 : IntKind.i64.wrap (q : Int) = (q : Int) := IntWalk.i64_in _ (by omega)
        have hg0 : ((g : Int) = 0) = False := eq_false (by omega)
        clear a6
        go_wp2_with fail
        go_quiet ((go_at_call 48; exact quiet_same (Hg.out _)))
        go_wp2
        go_roundw
        case rel => exact ⟨k + 1, by omega, by go_num, by rw [Hn.out, Int.natCast_mul], Hd.out.more _⟩
        case measure => simp [intOf]; omega
      · obtain rfl : k = m := by omega
        go_wp2
        go_ret2
        exact ⟨by rw [HSS.out, HLL.out, HM.out]; rfl, (G1.out.below _).trans ((Hb.out.mono (by rw [hz0]; exact Nat.le_refl _)).trans (hdw.below _))⟩
end Go.Proofs.Ytfjokclhbbndaab
