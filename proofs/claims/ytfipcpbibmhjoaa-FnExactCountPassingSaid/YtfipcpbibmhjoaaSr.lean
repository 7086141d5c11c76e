/- Contracts: how many cards pass tests, in both texts. -/
import Derived.Test.YtfipcpbibmhjoaaSq
set_option linter.unusedVariables false
namespace Go.Proofs.Ytfipcpbibmhjoaa
open Go.RowKit
def inAll (cs : List Int) : Bool := (List.range cs.length).all (fun k => rB (cs.getD k 0) 0 51)
def ok_CountPassing (n : Nat) (fs : List Int) (cs : List Int) : Bool := (testsB n fs && decide (cs.length ≤ 52)) && inAll cs
def res_CountPassing (n : Nat) (fs : List Int) (cs : List Int) : Int := if ok_CountPassing n fs cs = true then ((cntP (fun c => passB n fs c.toNat) cs cs.length : Nat) : Int) else 0
theorem cntP_cntQ (p : Int → Bool) (cs : List Int) : ∀ k, cntP p cs k = cntQ (fun i => p (cs.getD i 0)) k
  | 0 => rfl
  | k + 1 => by rw [cntP, cntQ, cntP_cntQ p cs k]
theorem cards_all (cs : List Int) : (((cntP (fun x => rB x 0 51) cs cs.length : Nat) : Int) == (cs.length : Int)) = inAll cs := by
  rw [cntP_cntQ]; exact cntQ_all _ _
theorem ret2i (a b : Int) (c d : Bool) (h : a = b) (g : c = d) : Ending.returned (.tuple #[.int .i64 a, .bool c]) = .returned (.tuple #[.int .i64 b, .bool d]) := by rw [h, g]
set_option maxHeartbeats 1000000 in
theorem clo_count (n : Nat) (fs : List Int) (v : Value) (c : Nat) (B : Nat) (w : World) (hn : n ≤ 1048576) (h : SlK 3 w v n fs) (hv : testsB n fs = true) (hc : c ≤ 51) (c1 : w.cell? ⟨B, 0, none⟩ = some v) :
    Calls Try.prog 85 #[.int .i64 (c : Int), .pointer (some ⟨B, 0, none⟩)] w fun e w' => e = .returned (.bool (passB n fs c)) ∧ Below w.heap.size w w' := by
  have H := Lib.hid (passes_any n fs v c w hn h hv hc)
  obtain ⟨-, p, cap, rfl, -⟩ := h
  generalize passB n fs c = R at *
  go_enter Try.func85, Try.ntmps85
  go_wp2_with (refine (H.out).mono ?_; rintro e w' ⟨rfl, hb⟩; have Hb2 := Lib.hid hb; clear hb)
  go_ret
  exact ⟨rfl, Hb2.out⟩
set_option maxRecDepth 100000 in
set_option maxHeartbeats 4000000 in
theorem impl_CountPassing (n : Nat) (fs : List Int) (v : Value) (cs : List Int) (u : Value) (w : World) (hn : n ≤ 1048576) (h : SlK 3 w v n fs) (hm : cs.length ≤ 1048576) (g : Sl (Value.int .i64) 0 w u cs) :
    Calls Try.prog 49 #[v, u] w fun e w' => e = .returned (.tuple #[.int .i64 (res_CountPassing n fs cs), .bool (ok_CountPassing n fs cs)]) ∧ Below w.heap.size w w' := by
  have hb0 := (Below.refl _ w).alloc (Nat.le_refl _) (.cells #[v] 54)
  have b1 := (Boxed.new w 54 v).cell
  have Ht := Lib.hid (tests_impl n fs v _ hn (h.later hb0))
  have Hk := Lib.hid (fun z (hz : Below (w.alloc (.cells #[v] 54)).heap.size (w.alloc (.cells #[v] 54)) z) => countW_any cs u 77 #[] #[] (fun x => rB x 0 51) z hm ((g.later hb0).later hz) (run_enter Try.func77 (by kernel_rfl) (by kernel_rfl)) (fun k w' hk hb => (card_any (cs.getD k 0) w').mono fun e w'' ⟨h1, h2⟩ => ⟨h1, by rw [h2]; exact Below.refl _ _⟩))
  have Hp := Lib.hid (fun (hv : testsB n fs = true) (hi : inAll cs = true) z (hz : Below (w.alloc (.cells #[v] 54)).heap.size (w.alloc (.cells #[v] 54)) z) => countW_any cs u 85 #[] #[.pointer (some ⟨w.heap.size, 0, none⟩)] (fun c => passB n fs c.toNat) z hm ((g.later hb0).later hz) (run_enter Try.func85 (by kernel_rfl) (by kernel_rfl)) (fun k w' hk hb => by
    have hr := rB_yes (all_at hi k hk)
    have := clo_count n fs v (cs.getD k 0).toNat w.heap.size w' hn (((h.later hb0).later hz).later hb) hv (by omega) (cell_keep hb (cell_keep hz b1))
    rw [Int.toNat_of_nonneg hr.1] at this
    exact this))
  have Hb0 := Lib.hid hb0
  have Hall := Lib.hid (cards_all cs)
  have hle := cntP_le (fun x => rB x 0 51) cs cs.length
  have hle2 := cntP_le (fun c => passB n fs c.toNat) cs cs.length
  obtain ⟨R, hR⟩ : ∃ R, R = ok_CountPassing n fs cs := ⟨_, rfl⟩
  obtain ⟨V, hV⟩ : ∃ V, V = res_CountPassing n fs cs := ⟨_, rfl⟩
  have E := Lib.hid (show R = ((testsB n fs && decide (cs.length ≤ 52)) && inAll cs) from hR)
  have EV := Lib.hid (show V = if R = true then ((cntP (fun c => passB n fs c.toNat) cs cs.length : Nat) : Int) else 0 by rw [hV, hR]; rfl)
  rw [← hR, ← hV]
  clear hR hV
  obtain ⟨-, p, cap, rfl, -⟩ := h
  obtain ⟨q, cap', rfl, -⟩ := g
  generalize cntP (fun x => rB x 0 51) cs cs.length = C at *
  generalize cntP (fun c => passB n fs c.toNat) cs cs.length = D at *
  generalize inAll cs = A at *
  cases hv : testsB n fs
  · rw [hv] at Ht
    have E2 := Lib.hid (show R = false by rw [E.out, hv]; simp)
    have E3 := Lib.hid (show V = 0 by rw [EV.out, E2.out]; rfl)
    clear hv Hp Hk Hall E
    go_enter Try.func49, Try.ntmps49
    go_wp2_with (go_at_call 81; refine (Ht.out).mono ?_; rintro e w1 ⟨rfl, hb⟩; have b2 := cell_keep hb b1; have Hs1 := Lib.hid hb; have Hb1 := Lib.hid (below_step Hb0.out hb (Nat.le_refl _)); clear hb)
    go_ret2
    exact ⟨ret2i _ _ _ _ E3.out.symm E2.out.symm, Hb1.out⟩
  rw [hv] at Ht
  by_cases h52 : ¬ cs.length ≤ 52
  · have E2 := Lib.hid (show R = false by rw [E.out, decide_eq_false h52]; simp)
    have E3 := Lib.hid (show V = 0 by rw [EV.out, E2.out]; rfl)
    have hd : decide (52 < (cs.length : Int)) = true := decide_eq_true (by omega)
    clear hv Hp Hk Hall E EV
    go_enter Try.func49, Try.ntmps49
    go_wp2_with (go_at_call 81; refine (Ht.out).mono ?_; rintro e w1 ⟨rfl, hb⟩; have b2 := cell_keep hb b1; have Hs1 := Lib.hid hb; have Hb1 := Lib.hid (below_step Hb0.out hb (Nat.le_refl _)); clear hb)
    go_ret2
    exact ⟨ret2i _ _ _ _ E3.out.symm E2.out.symm, Hb1.out⟩
  have hd : decide (52 < (cs.length : Int)) = false := decide_eq_false (by omega)
  cases A
  · have E2 := Lib.hid (show R = false by rw [E.out]; simp)
    have E3 := Lib.hid (show V = 0 by rw [EV.out, E2.out]; rfl)
    have hal : ((C : Int) != (cs.length : Int)) = true := by have := Hall.out; simp only [bne, this]; rfl
    have hne : ((C : Int) = (cs.length : Int)) = False := eq_false (by have := Hall.out; simpa using this)
    clear hv Hp E EV
    go_enter Try.func49, Try.ntmps49
    go_wp2_with (first | (go_at_call 81; refine (Ht.out).mono ?_; rintro e w1 ⟨rfl, hb⟩; have b2 := cell_keep hb b1; have Hs1 := Lib.hid hb; have Hb1 := Lib.hid (below_step Hb0.out hb (Nat.le_refl _)); clear hb) | (go_at_call 84; (with_reducible refine (Hk.out _ Hs1.out).mono ?_); rintro e w2 ⟨rfl, hb⟩; have b3 := cell_keep hb b2; have Hs2 := Lib.hid (below_step Hs1.out hb (Nat.le_refl _)); have Hb2 := Lib.hid (below_step Hb1.out hb (Nat.le_refl _)); clear hb))
    go_ret2
    exact ⟨ret2i _ _ _ _ E3.out.symm E2.out.symm, Hb2.out⟩
  have E2 := Lib.hid (show R = true by rw [E.out, hv, decide_eq_true (show cs.length ≤ 52 by omega)]; rfl)
  have E3 := Lib.hid (show V = ((D : Nat) : Int) by rw [EV.out, E2.out]; rfl)
  have Hp2 := Lib.hid (Hp.out hv rfl)
  have hcm : (C : Int) = (cs.length : Int) := by have := Hall.out; simpa using this
  obtain rfl : C = cs.length := by omega
  clear hv Hp E EV hcm
  go_enter Try.func49, Try.ntmps49
  go_wp2_with (first | (go_at_call 81; refine (Ht.out).mono ?_; rintro e w1 ⟨rfl, hb⟩; have b2 := cell_keep hb b1; have Hs1 := Lib.hid hb; have Hb1 := Lib.hid (below_step Hb0.out hb (Nat.le_refl _)); clear hb) | (go_at_call 84; (with_reducible refine (Hk.out _ Hs1.out).mono ?_); rintro e w2 ⟨rfl, hb⟩; have b3 := cell_keep hb b2; have Hs2 := Lib.hid (below_step Hs1.out hb (Nat.le_refl _)); have Hb2 := Lib.hid (below_step Hb1.out hb (Nat.le_refl _)); clear hb) | (go_at_call 84; refine (Hp2.out _ Hs2.out).mono ?_; rintro e w3 ⟨rfl, hb⟩; have Hb3 := Lib.hid (below_step Hb2.out hb (Nat.le_refl _)); clear hb))
  go_ret2
  exact ⟨ret2i _ _ _ _ E3.out.symm E2.out.symm, Hb3.out⟩
set_option maxRecDepth 100000 in
set_option maxHeartbeats 4000000 in
theorem spec_CountPassing (n : Nat) (fs : List Int) (v : Value) (cs : List Int) (u : Value) (w : World) (hn : n ≤ 1048576) (h : SlK 3 w v n fs) (hm : cs.length ≤ 1048576) (g : Sl (Value.int .i64) 0 w u cs) :
    Calls Try.prog 47 #[v, u] w fun e w' => e = .returned (.tuple #[.int .i64 (res_CountPassing n fs cs), .bool (ok_CountPassing n fs cs)]) ∧ Below w.heap.size w w' := by
  have Ht := Lib.hid (tests_spec n fs v w hn h)
  have Hin := Lib.hid (fun x z => inR_any x 0 51 z)
  have Hp := Lib.hid (fun (hv : testsB n fs = true) z (hz : Below w.heap.size w z) c hc => passes_spec n fs v c z hn (h.later hz) hv hc)
  obtain ⟨R, hR⟩ : ∃ R, R = ok_CountPassing n fs cs := ⟨_, rfl⟩
  obtain ⟨V, hV⟩ : ∃ V, V = res_CountPassing n fs cs := ⟨_, rfl⟩
  have E := Lib.hid (show R = ((testsB n fs && decide (cs.length ≤ 52)) && inAll cs) from hR)
  have EV := Lib.hid (show V = if R = true then ((cntP (fun c => passB n fs c.toNat) cs cs.length : Nat) : Int) else 0 by rw [hV, hR]; rfl)
  rw [← hR, ← hV]
  clear hR hV
  have Hno := Lib.hid (fun k (hk : k < cs.length) h => show inAll cs = false from all_not (p := fun k => rB (cs.getD k 0) 0 51) k hk h)
  have Hyes := Lib.hid (fun h => show inAll cs = true from all_of (p := fun k => rB (cs.getD k 0) 0 51) h)
  have Hst := Lib.hid (fun k => show cntP (fun c => passB n fs c.toNat) cs (k + 1) = cntP (fun c => passB n fs c.toNat) cs k + (if passB n fs (cs.getD k 0).toNat = true then 1 else 0) from rfl)
  have Hle := Lib.hid (cntP_le (fun c => passB n fs c.toNat) cs)
  have Hz := Lib.hid (show cntP (fun c => passB n fs c.toNat) cs 0 = 0 from rfl)
  generalize cntP (fun c => passB n fs c.toNat) cs = D at *
  obtain ⟨-, p, cap, rfl, -⟩ := h
  obtain ⟨q, cap', rfl, hg⟩ := g
  have Hg := Lib.hid hg
  clear hg
  obtain ⟨m, hmm⟩ : ∃ m, m = cs.length := ⟨_, rfl⟩
  rw [← hmm] at hm E EV Hno Hyes Hg
  rw [← hmm]
  clear hmm
  cases hv : testsB n fs
  · rw [hv] at Ht
    have E2 := Lib.hid (show R = false by rw [E.out, hv]; simp)
    have E3 := Lib.hid (show V = 0 by rw [EV.out, E2.out]; rfl)
    clear hv Hp E EV Hno Hyes Hst Hle Hz Hg Hin
    go_enter Try.func47, Try.ntmps47
    go_wp2_with (refine (Ht.out).mono ?_; rintro e w1 ⟨rfl, rfl⟩)
    go_ret2
    exact ⟨ret2i _ _ _ _ E3.out.symm E2.out.symm, Below.refl _ _⟩
  rw [hv] at Ht
  by_cases h52 : ¬ m ≤ 52
  · have E2 := Lib.hid (show R = false by rw [E.out, decide_eq_false h52]; simp)
    have E3 := Lib.hid (show V = 0 by rw [EV.out, E2.out]; rfl)
    have hd : decide (52 < (m : Int)) = true := decide_eq_true (by omega)
    clear hv Hp E EV Hno Hyes Hst Hle Hz Hg Hin
    go_enter Try.func47, Try.ntmps47
    go_wp2_with (refine (Ht.out).mono ?_; rintro e w1 ⟨rfl, rfl⟩)
    go_ret2
    exact ⟨ret2i _ _ _ _ E3.out.symm E2.out.symm, Below.refl _ _⟩
  have h52' : m ≤ 52 := by omega
  have hd : decide (52 < (m : Int)) = false := decide_eq_false (by omega)
  have E2 := Lib.hid (show R = inAll cs by rw [E.out, hv, decide_eq_true h52']; rfl)
  have Hp2 := Lib.hid (Hp.out hv)
  clear hv Hp E h52
  go_enter Try.func47, Try.ntmps47
  go_wp2_with (refine (Ht.out).mono ?_; rintro e w1 ⟨rfl, rfl⟩)
  go_loopw [6, 18] (fun c i wr => ∃ k : Nat, k ≤ m ∧ i = .int .i64 (k : Int) ∧ c = .int .i64 ((D k : Nat) : Int) ∧ Hid (∀ j, j < k → rB (cs.getD j 0) 0 51 = true) ∧ Drawn w wr) (fun _ i _ => m - (intOf i).toNat)
  case atStart => exact ⟨0, Nat.zero_le _, rfl, by rw [Hz.out]; rfl, Lib.hid (fun j h => absurd h (by omega)), Drawn.refl _⟩
  case round =>
    obtain ⟨k, hk, rfl, rfl, hdn, hw⟩ := hrel
    have hle := Hle.out k
    by_cases hlt : k < m
    · obtain ⟨hcap, b, off, rfl, hbs, hcl⟩ := Hg.out (by omega)
      have c1 := (hw.cell _).trans (hcl k hlt)
      have Hi := Lib.hid (fun z => Hin.out (cs.getD k 0) z)
      have Hno2 := Lib.hid (fun h => Hno.out k hlt h)
      have HD : Hid (rB (cs.getD k 0) 0 51 = true → ∀ j, j < k + 1 → rB (cs.getD j 0) 0 51 = true) := Lib.hid (fun hg j hj => by
        by_cases e : j = k
        · subst e; exact hg
        · exact hdn.out j (by omega))
      have hst := Hst.out k
      clear hcl Hno Hyes hdn Hst Hin Hle Hz
      generalize cs.getD k 0 = X at *
      cases hr : rB X 0 51
      · have HR := Lib.hid (E2.out.trans (Hno2.out hr))
        have E3 := Lib.hid (show V = 0 by rw [EV.out, HR.out]; rfl)
        rw [hr] at Hi
        clear hr HD Hno2 hst E2 EV
        go_wp2_with (refine (Hi.out _).mono ?_; rintro e w' ⟨rfl, rfl⟩)
        go_ret2
        exact ⟨ret2i _ _ _ _ E3.out.symm HR.out.symm, hw.below _⟩
      have HD2 := Lib.hid (HD.out hr)
      have hr2 := rB_yes hr
      obtain ⟨x, rfl⟩ : ∃ x : Nat, X = (x : Int) := ⟨X.toNat, by omega⟩
      have Hc := Lib.hid (Hp2.out wr (hw.below _) x (by omega))
      rw [hr] at Hi
      rw [Int.toNat_natCast] at hst
      have hx : x ≤ 51 := by omega
      clear hr hr2 HD Hno2
      generalize passB n fs x = pp at *
      cases pp
      · rw [if_neg Bool.false_ne_true, Nat.add_zero] at hst
        have Hst2 := Lib.hid hst
        clear hst
        go_wp2_with (first | (go_at_call 79; refine (Hi.out _).mono ?_; rintro e w' ⟨rfl, rfl⟩) | (go_at_call 80; refine (Hc.out).mono ?_; rintro e w' ⟨rfl, hdr⟩; have Hw := Lib.hid (hw.trans hdr); clear hdr))
        go_roundw
        case rel => exact ⟨k + 1, by omega, by go_num, by rw [Hst2.out]; first | rfl | go_num, HD2, Hw.out⟩
        case measure => simp [intOf]; omega
      · rw [if_pos rfl] at hst
        have Hst2 := Lib.hid hst
        clear hst
        generalize D k = dk at *
        go_wp2_with (first | (go_at_call 79; refine (Hi.out _).mono ?_; rintro e w' ⟨rfl, rfl⟩) | (go_at_call 80; refine (Hc.out).mono ?_; rintro e w' ⟨rfl, hdr⟩; have Hw := Lib.hid (hw.trans hdr); clear hdr))
        go_roundw
        case rel => exact ⟨k + 1, by omega, by go_num, by rw [Hst2.out]; go_num, HD2, Hw.out⟩
        case measure => simp [intOf]; omega
    · obtain rfl : k = m := by omega
      have HR := Lib.hid (E2.out.trans (Hyes.out hdn.out))
      have E3 := Lib.hid (show V = ((D k : Nat) : Int) by rw [EV.out, HR.out]; rfl)
      clear Hno Hyes hdn E2 EV
      go_wp2
      go_ret2
      exact ⟨ret2i _ _ _ _ E3.out.symm HR.out.symm, hw.below _⟩
end Go.Proofs.Ytfipcpbibmhjoaa
