/- Contracts: kinds and values of five cards, the specification. -/
import Derived.Test.YtodmaomngpnboaaHsK
set_option linter.unusedVariables false
namespace Go.Proofs.Ytodmaomngpnboaa
open Go.RowKit

theorem handB_five (fs : List Int) : handB 5 5 fs = (handB 1 7 fs && decide (fs.length = 5)) := by
  unfold handB
  generalize fs.length = n
  cases cardsB fs
  · simp
  · rw [Bool.eq_iff_iff]; simp; omega
set_option maxHeartbeats 2000000 in
theorem five_spec (fs : List Int) (v : Value) (w : World) (hn : fs.length ≤ 1048576) (h : Sl (Value.int .i64) 0 w v fs) :
    Calls Try.prog 108 #[v] w fun e w' => e = .returned (.bool (handB 5 5 fs)) ∧ Drawn w w' := by
  have Hs := Lib.hid (hand_spec fs v w hn h)
  rw [handB_five]
  obtain ⟨p, cap, rfl, -⟩ := h
  have e1 : ((fs.length : Int) == 5) = decide (fs.length = 5) := by rw [Bool.eq_iff_iff, beq_iff_eq, decide_eq_true_eq]; omega
  generalize decide (fs.length = 5) = d at *
  generalize fs.length = n at *
  cases hB : handB 1 7 fs
  · rw [hB] at Hs
    go_enter Try.func108, Try.ntmps108
    go_wp2_with (go_at_call 154; refine Hs.out.mono ?_; rintro e w' ⟨rfl, hb⟩; have Hb := Lib.hid hb; clear hb)
    go_ret
    exact ⟨rfl, Hb.out⟩
  · rw [hB] at Hs
    go_enter Try.func108, Try.ntmps108
    go_wp2_with (go_at_call 154; refine Hs.out.mono ?_; rintro e w' ⟨rfl, hb⟩; have Hb := Lib.hid hb; clear hb)
    go_ret
    exact ⟨ret_bool (by simp), Hb.out⟩
set_option maxHeartbeats 2000000 in
theorem spec_KindOf (fs : List Int) (v : Value) (w : World) (hn : fs.length ≤ 1048576) (h : Sl (Value.int .i64) 0 w v fs) :
    Calls Try.prog 55 #[v] w fun e w' => e = .returned (.tuple #[.int .i64 (res_KindOf fs), .bool (ok_KindOf fs)]) ∧ Below w.heap.size w w' := by
  have HH := Lib.hid (five_spec fs v w hn h)
  unfold res_KindOf ok_KindOf
  cases hB : handB 5 5 fs
  · rw [hB] at HH
    rw [if_neg Bool.false_ne_true]
    clear hB h
    go_enter Try.func55, Try.ntmps55
    go_wp2_with fail
    refine (HH.out).mono ?_
    rintro e w1 ⟨rfl, hb1⟩
    have Hb1 := Lib.hid (hb1.below w.heap.size)
    clear hb1
    go_wp2
    go_ret2
    exact ⟨rfl, Hb1.out⟩
  · rw [hB] at HH
    rw [if_pos rfl]
    obtain ⟨n1, n2, n3, n4⟩ := cards_nat hB
    have hS := Lib.hid (fun z (hz : Sl (Value.int .i64) 0 z v fs) => look_spec (csF fs) v z n2 n3 (rank4 n4 n3) (n1 ▸ hz))
    rw [show cntL ((csF fs).map (· % 13)) = CF fs from rfl, show sameK (csF fs) 5 = oneF fs from rfl] at hS
    generalize pvV (kindC (CF fs) (oneF fs)) (digC (CF fs)) 5 = PV at *
    generalize kindC (CF fs) (oneF fs) = K at *
    have HV := Lib.hid (fun z hz => h.drawn (w' := z) hz)
    clear hB h n1 n2 n3 n4
    go_enter Try.func55, Try.ntmps55
    go_wp2_with fail
    refine (HH.out).mono ?_
    rintro e w1 ⟨rfl, hb1⟩
    have Hs1 := Lib.hid (HV.out _ hb1)
    have Hb1 := Lib.hid (hb1.below w.heap.size)
    clear hb1
    go_wp2_with fail
    refine (hS.out _ Hs1.out).mono ?_
    rintro e w2 ⟨rfl, hb2⟩
    have Hb2 := Lib.hid (Hb1.out.trans (hb2.mono Hb1.out.size))
    clear hb2
    go_wp2
    go_ret2
    exact ⟨rfl, Hb2.out⟩
set_option maxHeartbeats 2000000 in
theorem spec_ValueOf (fs : List Int) (v : Value) (w : World) (hn : fs.length ≤ 1048576) (h : Sl (Value.int .i64) 0 w v fs) :
    Calls Try.prog 57 #[v] w fun e w' => e = .returned (.tuple #[.int .i64 (res_ValueOf fs), .bool (ok_ValueOf fs)]) ∧ Below w.heap.size w w' := by
  have HH := Lib.hid (five_spec fs v w hn h)
  unfold res_ValueOf ok_ValueOf
  cases hB : handB 5 5 fs
  · rw [hB] at HH
    rw [if_neg Bool.false_ne_true]
    clear hB h
    go_enter Try.func57, Try.ntmps57
    go_wp2_with fail
    refine (HH.out).mono ?_
    rintro e w1 ⟨rfl, hb1⟩
    have Hb1 := Lib.hid (hb1.below w.heap.size)
    clear hb1
    go_wp2
    go_ret2
    exact ⟨rfl, Hb1.out⟩
  · rw [hB] at HH
    rw [if_pos rfl]
    obtain ⟨n1, n2, n3, n4⟩ := cards_nat hB
    have hS := Lib.hid (fun z (hz : Sl (Value.int .i64) 0 z v fs) => look_spec (csF fs) v z n2 n3 (rank4 n4 n3) (n1 ▸ hz))
    rw [show cntL ((csF fs).map (· % 13)) = CF fs from rfl, show sameK (csF fs) 5 = oneF fs from rfl] at hS
    generalize pvV (kindC (CF fs) (oneF fs)) (digC (CF fs)) 5 = PV at *
    generalize kindC (CF fs) (oneF fs) = K at *
    have HV := Lib.hid (fun z hz => h.drawn (w' := z) hz)
    clear hB h n1 n2 n3 n4
    go_enter Try.func57, Try.ntmps57
    go_wp2_with fail
    refine (HH.out).mono ?_
    rintro e w1 ⟨rfl, hb1⟩
    have Hs1 := Lib.hid (HV.out _ hb1)
    have Hb1 := Lib.hid (hb1.below w.heap.size)
    clear hb1
    go_wp2_with fail
    refine (hS.out _ Hs1.out).mono ?_
    rintro e w2 ⟨rfl, hb2⟩
    have Hb2 := Lib.hid (Hb1.out.trans (hb2.mono Hb1.out.size))
    clear hb2
    go_wp2
    go_ret2
    exact ⟨rfl, Hb2.out⟩
end Go.Proofs.Ytodmaomngpnboaa
