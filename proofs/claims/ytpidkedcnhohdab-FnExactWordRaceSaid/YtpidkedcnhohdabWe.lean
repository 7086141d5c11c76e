/- Contracts: waits, races of words, in both texts. -/
import Derived.Test.YtpidkedcnhohdabWd
set_option linter.unusedVariables false
namespace Go.Proofs.Ytpidkedcnhohdab
open Go.RowKit

set_option maxRecDepth 100000 in
set_option maxHeartbeats 1000000 in
theorem inI_no (fs gs : List Int) (v u : Value) (w : World) (h0 : 1 ≤ fs.length) (g0 : 1 ≤ gs.length) (hn : fs.length ≤ 12) (hm : gs.length ≤ 12) (h : Sl (Value.int .i64) 0 w v fs) (g : Sl (Value.int .i64) 0 w u gs) (hin : inB fs gs = false) :
    Calls Try.prog 52 #[v, u] w fun e w' => e = .returned (.bool false) ∧ Drawn w w' := by
  have hno := fun i hi => inB_no hin i hi
  clear hin
  have HA := Lib.hid h
  have HB := Lib.hid g
  obtain ⟨p, cap, rfl, hf⟩ := h
  obtain ⟨hcap, b, off, rfl, hbs, hc⟩ := hf (by omega)
  obtain ⟨q, cap', rfl, hg⟩ := g
  obtain ⟨hcap', b', off', rfl, hbs', hc'⟩ := hg (by omega)
  clear hf hg hc hc'
  obtain ⟨n, hn1⟩ : ∃ n, n = fs.length := ⟨_, rfl⟩
  obtain ⟨m, hm1⟩ : ∃ n, n = gs.length := ⟨_, rfl⟩
  have Hn := Lib.hid hn1
  have Hm := Lib.hid hm1
  rw [← hn1] at hn h0 hcap HA ⊢
  rw [← hm1] at hm g0 hcap' HB ⊢
  rw [← hm1, ← hn1] at hno
  clear hn1 hm1
  have Hno := Lib.hid hno
  clear hno
  have hx1 : (m : Int) - (n : Int) + 1 ≤ 12 := by omega
  go_enter Try.func52, Try.ntmps52
  go_wp2
  go_loopw [12] (fun i wr => ∃ k q : Nat, k ≤ m + 1 - n ∧ i = .int .i64 (k : Int) ∧ wr = w.drewN q) (fun i _ => m + 1 - (intOf i).toNat)
  case atStart => exact ⟨0, 0, by omega, rfl, rfl⟩
  case round =>
    obtain ⟨k, dq, hk, rfl, rfl⟩ := hrel
    by_cases hlt : k < m + 1 - n
    · have Hh := Lib.hid (fun q => eqS_any ((gs.drop k).take n) fs _ _ (w.drewN q) (by simp; omega) (by have := Hn.out; omega) ((HB.out.part k n (cap' - k) (by have := Hm.out; omega) (by omega)).drewN q) (HA.out.drewN q))
      have HX := Hno.out k hlt
      rw [decide_eq_false (show ¬ (gs.drop k).take n = fs by exact HX)] at Hh
      clear HX
      have dk : decide ((k : Int) + (n : Int) ≤ (m : Int)) = true := decide_eq_true (by omega)
      go_wp2_with fail
      with_reducible refine (Hh.out _).mono ?_
      rintro e w' ⟨rfl, nq, rfl⟩
      go_wp2
      go_roundw
      case rel => exact ⟨k + 1, _, by omega, by go_num, rfl⟩
      case measure => simp [intOf]; omega
    · have hk2 : k = m + 1 - n := by omega
      have dk : decide ((k : Int) < (m : Int) - (n : Int) + 1) = false := decide_eq_false (by omega)
      have dk2 : decide (k + n ≤ m) = false := decide_eq_false (by omega)
      go_wp2
      go_ret
      exact ⟨rfl, _, rfl⟩
set_option maxRecDepth 100000 in
set_option maxHeartbeats 1000000 in
theorem inI_yes (fs gs : List Int) (v u : Value) (w : World) (h0 : 1 ≤ fs.length) (g0 : 1 ≤ gs.length) (hn : fs.length ≤ 12) (hm : gs.length ≤ 12) (h : Sl (Value.int .i64) 0 w v fs) (g : Sl (Value.int .i64) 0 w u gs) (hin : inB fs gs = true) :
    Calls Try.prog 52 #[v, u] w fun e w' => e = .returned (.bool true) ∧ Drawn w w' := by
  obtain ⟨t, t1, t2, t3⟩ := inB_yes hin
  clear hin
  have HA := Lib.hid h
  have HB := Lib.hid g
  obtain ⟨p, cap, rfl, hf⟩ := h
  obtain ⟨hcap, b, off, rfl, hbs, hc⟩ := hf (by omega)
  obtain ⟨q, cap', rfl, hg⟩ := g
  obtain ⟨hcap', b', off', rfl, hbs', hc'⟩ := hg (by omega)
  clear hf hg hc hc'
  obtain ⟨n, hn1⟩ : ∃ n, n = fs.length := ⟨_, rfl⟩
  obtain ⟨m, hm1⟩ : ∃ n, n = gs.length := ⟨_, rfl⟩
  have Hn := Lib.hid hn1
  have Hm := Lib.hid hm1
  rw [← hn1] at hn h0 hcap HA ⊢
  rw [← hm1] at hm g0 hcap' HB ⊢
  rw [← hm1, ← hn1] at t1; rw [← hn1] at t2 t3
  clear hn1 hm1
  have Hno := Lib.hid t2
  have Hyes := Lib.hid t3
  clear t2 t3
  go_enter Try.func52, Try.ntmps52
  go_wp2
  go_loopw [12] (fun i wr => ∃ k q : Nat, k ≤ t ∧ i = .int .i64 (k : Int) ∧ wr = w.drewN q) (fun i _ => m + 1 - (intOf i).toNat)
  case atStart => exact ⟨0, 0, by omega, rfl, rfl⟩
  case round =>
    obtain ⟨k, dq, hk, rfl, rfl⟩ := hrel
    by_cases hlt : k < t
    · have Hh := Lib.hid (fun q => eqS_any ((gs.drop k).take n) fs _ _ (w.drewN q) (by simp; omega) (by have := Hn.out; omega) ((HB.out.part k n (cap' - k) (by have := Hm.out; omega) (by omega)).drewN q) (HA.out.drewN q))
      have HX := Hno.out k hlt
      rw [decide_eq_false (show ¬ (gs.drop k).take n = fs by exact HX)] at Hh
      clear HX
      have dk : decide ((k : Int) + (n : Int) ≤ (m : Int)) = true := decide_eq_true (by omega)
      go_wp2_with fail
      with_reducible refine (Hh.out _).mono ?_
      rintro e w' ⟨rfl, nq, rfl⟩
      go_wp2
      go_roundw
      case rel => exact ⟨k + 1, _, by omega, by go_num, rfl⟩
      case measure => simp [intOf]; omega
    · obtain rfl : k = t := by omega
      have Hh := Lib.hid (fun q => eqS_any ((gs.drop k).take n) fs _ _ (w.drewN q) (by simp; omega) (by have := Hn.out; omega) ((HB.out.part k n (cap' - k) (by have := Hm.out; omega) (by omega)).drewN q) (HA.out.drewN q))
      have HX := Hyes.out
      rw [decide_eq_true (show (gs.drop k).take n = fs by exact HX)] at Hh
      clear HX
      have dk : decide ((k : Int) + (n : Int) ≤ (m : Int)) = true := decide_eq_true (by omega)
      go_wp2_with fail
      with_reducible refine (Hh.out _).mono ?_
      rintro e w' ⟨rfl, nq, rfl⟩
      go_wp2
      go_ret
      exact ⟨rfl, _, rfl⟩
theorem inI_any (fs gs : List Int) (v u : Value) (w : World) (h0 : 1 ≤ fs.length) (g0 : 1 ≤ gs.length) (hn : fs.length ≤ 12) (hm : gs.length ≤ 12) (h : Sl (Value.int .i64) 0 w v fs) (g : Sl (Value.int .i64) 0 w u gs) :
    Calls Try.prog 52 #[v, u] w fun e w' => e = .returned (.bool (inB fs gs)) ∧ Drawn w w' := by
  cases hin : inB fs gs
  · exact inI_no fs gs v u w h0 g0 hn hm h g hin
  · exact inI_yes fs gs v u w h0 g0 hn hm h g hin
set_option maxRecDepth 100000 in
set_option maxHeartbeats 1000000 in
theorem inS_no (fs gs : List Int) (v u : Value) (w : World) (h0 : 1 ≤ fs.length) (g0 : 1 ≤ gs.length) (hn : fs.length ≤ 12) (hm : gs.length ≤ 12) (h : Sl (Value.int .i64) 0 w v fs) (g : Sl (Value.int .i64) 0 w u gs) (hin : inB fs gs = false) :
    Calls Try.prog 50 #[v, u] w fun e w' => e = .returned (.bool false) ∧ Drawn w w' := by
  have hno := fun i hi => inB_no hin i hi
  clear hin
  have HA := Lib.hid h
  have HB := Lib.hid g
  obtain ⟨p, cap, rfl, hf⟩ := h
  obtain ⟨hcap, b, off, rfl, hbs, hc⟩ := hf (by omega)
  obtain ⟨q, cap', rfl, hg⟩ := g
  obtain ⟨hcap', b', off', rfl, hbs', hc'⟩ := hg (by omega)
  clear hf hg hc hc'
  obtain ⟨n, hn1⟩ : ∃ n, n = fs.length := ⟨_, rfl⟩
  obtain ⟨m, hm1⟩ : ∃ n, n = gs.length := ⟨_, rfl⟩
  have Hn := Lib.hid hn1
  have Hm := Lib.hid hm1
  rw [← hn1] at hn h0 hcap HA ⊢
  rw [← hm1] at hm g0 hcap' HB ⊢
  rw [← hm1, ← hn1] at hno
  clear hn1 hm1
  have Hno := Lib.hid hno
  clear hno
  have hx1 : (m : Int) - (n : Int) + 1 ≤ 12 := by omega
  go_enter Try.func50, Try.ntmps50
  go_wp2
  go_loopw [5] (fun i wr => ∃ k q : Nat, k ≤ m + 1 - n ∧ i = .int .i64 (k : Int) ∧ wr = w.drewN q) (fun i _ => m + 1 - (intOf i).toNat)
  case atStart => exact ⟨0, 0, by omega, rfl, rfl⟩
  case round =>
    obtain ⟨k, dq, hk, rfl, rfl⟩ := hrel
    by_cases hlt : k < m + 1 - n
    · have Hh := Lib.hid (fun q => sameS_any fs ((gs.drop k).take n) _ _ (w.drewN q) (by have := Hn.out; omega) (by simp; omega) (HA.out.drewN q) ((HB.out.part k n (cap' - k) (by have := Hm.out; omega) (by omega)).drewN q))
      have HX := Hno.out k hlt
      rw [decide_eq_false (show ¬ fs = (gs.drop k).take n by exact fun e => HX e.symm)] at Hh
      clear HX
      have dk : decide ((k : Int) + (n : Int) ≤ (m : Int)) = true := decide_eq_true (by omega)
      go_wp2_with fail
      with_reducible refine (Hh.out _).mono ?_
      rintro e w' ⟨rfl, nq, rfl⟩
      go_wp2
      go_roundw
      case rel => exact ⟨k + 1, _, by omega, by go_num, rfl⟩
      case measure => simp [intOf]; omega
    · have hk2 : k = m + 1 - n := by omega
      have dk : decide ((k : Int) < (m : Int) - (n : Int) + 1) = false := decide_eq_false (by omega)
      have dk2 : decide (k + n ≤ m) = false := decide_eq_false (by omega)
      go_wp2
      go_ret
      exact ⟨rfl, _, rfl⟩
set_option maxRecDepth 100000 in
set_option maxHeartbeats 1000000 in
theorem inS_yes (fs gs : List Int) (v u : Value) (w : World) (h0 : 1 ≤ fs.length) (g0 : 1 ≤ gs.length) (hn : fs.length ≤ 12) (hm : gs.length ≤ 12) (h : Sl (Value.int .i64) 0 w v fs) (g : Sl (Value.int .i64) 0 w u gs) (hin : inB fs gs = true) :
    Calls Try.prog 50 #[v, u] w fun e w' => e = .returned (.bool true) ∧ Drawn w w' := by
  obtain ⟨t, t1, t2, t3⟩ := inB_yes hin
  clear hin
  have HA := Lib.hid h
  have HB := Lib.hid g
  obtain ⟨p, cap, rfl, hf⟩ := h
  obtain ⟨hcap, b, off, rfl, hbs, hc⟩ := hf (by omega)
  obtain ⟨q, cap', rfl, hg⟩ := g
  obtain ⟨hcap', b', off', rfl, hbs', hc'⟩ := hg (by omega)
  clear hf hg hc hc'
  obtain ⟨n, hn1⟩ : ∃ n, n = fs.length := ⟨_, rfl⟩
  obtain ⟨m, hm1⟩ : ∃ n, n = gs.length := ⟨_, rfl⟩
  have Hn := Lib.hid hn1
  have Hm := Lib.hid hm1
  rw [← hn1] at hn h0 hcap HA ⊢
  rw [← hm1] at hm g0 hcap' HB ⊢
  rw [← hm1, ← hn1] at t1; rw [← hn1] at t2 t3
  clear hn1 hm1
  have Hno := Lib.hid t2
  have Hyes := Lib.hid t3
  clear t2 t3
  go_enter Try.func50, Try.ntmps50
  go_wp2
  go_loopw [5] (fun i wr => ∃ k q : Nat, k ≤ t ∧ i = .int .i64 (k : Int) ∧ wr = w.drewN q) (fun i _ => m + 1 - (intOf i).toNat)
  case atStart => exact ⟨0, 0, by omega, rfl, rfl⟩
  case round =>
    obtain ⟨k, dq, hk, rfl, rfl⟩ := hrel
    by_cases hlt : k < t
    · have Hh := Lib.hid (fun q => sameS_any fs ((gs.drop k).take n) _ _ (w.drewN q) (by have := Hn.out; omega) (by simp; omega) (HA.out.drewN q) ((HB.out.part k n (cap' - k) (by have := Hm.out; omega) (by omega)).drewN q))
      have HX := Hno.out k hlt
      rw [decide_eq_false (show ¬ fs = (gs.drop k).take n by exact fun e => HX e.symm)] at Hh
      clear HX
      have dk : decide ((k : Int) + (n : Int) ≤ (m : Int)) = true := decide_eq_true (by omega)
      go_wp2_with fail
      with_reducible refine (Hh.out _).mono ?_
      rintro e w' ⟨rfl, nq, rfl⟩
      go_wp2
      go_roundw
      case rel => exact ⟨k + 1, _, by omega, by go_num, rfl⟩
      case measure => simp [intOf]; omega
    · obtain rfl : k = t := by omega
      have Hh := Lib.hid (fun q => sameS_any fs ((gs.drop k).take n) _ _ (w.drewN q) (by have := Hn.out; omega) (by simp; omega) (HA.out.drewN q) ((HB.out.part k n (cap' - k) (by have := Hm.out; omega) (by omega)).drewN q))
      have HX := Hyes.out
      rw [decide_eq_true (show fs = (gs.drop k).take n by exact HX.symm)] at Hh
      clear HX
      have dk : decide ((k : Int) + (n : Int) ≤ (m : Int)) = true := decide_eq_true (by omega)
      go_wp2_with fail
      with_reducible refine (Hh.out _).mono ?_
      rintro e w' ⟨rfl, nq, rfl⟩
      go_wp2
      go_ret
      exact ⟨rfl, _, rfl⟩
theorem inS_any (fs gs : List Int) (v u : Value) (w : World) (h0 : 1 ≤ fs.length) (g0 : 1 ≤ gs.length) (hn : fs.length ≤ 12) (hm : gs.length ≤ 12) (h : Sl (Value.int .i64) 0 w v fs) (g : Sl (Value.int .i64) 0 w u gs) :
    Calls Try.prog 50 #[v, u] w fun e w' => e = .returned (.bool (inB fs gs)) ∧ Drawn w w' := by
  cases hin : inB fs gs
  · exact inS_no fs gs v u w h0 g0 hn hm h g hin
  · exact inS_yes fs gs v u w h0 g0 hn hm h g hin
end Go.Proofs.Ytpidkedcnhohdab
