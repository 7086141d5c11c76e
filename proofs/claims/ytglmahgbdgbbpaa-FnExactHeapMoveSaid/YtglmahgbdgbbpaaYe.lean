/- Contracts: values of heaps, the model: TakeValues. -/
import Derived.Test.YtglmahgbdgbbpaaYd
set_option linter.unusedVariables false
namespace Go.Proofs.Ytglmahgbdgbbpaa
open Go.RowKit

theorem own_zeroY (w : World) (base : Nat) (e : TypeId) (hb : base ≤ w.heap.size) : (w.alloc (.cells #[] e)).ownsRow base e 1 (.slice (some ⟨w.heap.size, 0, none⟩) 0 0) 0 [] :=
  World.ownsRow_made w #[] 0 hb (Nat.zero_le _) rfl
set_option maxRecDepth 100000 in
set_option maxHeartbeats 4000000 in
theorem valuesS_any (ms : List Int) (u : Value) (n : Nat) (w : World) (hn : n ≤ 1000) (hm : ms.length ≤ 8) (hb : ∀ i, i < ms.length → 1 ≤ ms.getD i 0 ∧ ms.getD i 0 ≤ 200) (hs : Sl (Value.int .i64) 0 w u ms) :
    Calls Try.prog 79 #[u, .int .i64 (n : Int)] w fun e w' => ∃ r, e = .returned r ∧ Sw (Value.int .i64) 0 w' r (valT ms (n + 1)) w.heap.size w'.heap.size ∧ Below w.heap.size w w' := by
  obtain ⟨i0, hi, hz0, hz1, hz2⟩ := info_parts (show (Try.prog.info? 2).map (fun i => (i.zero, i.size, i.bytes)) = some (some (.int .i64 0), 1, 8) by kernel_rfl)
  obtain ⟨p, cap, rfl, hf⟩ := hs
  have Hf := Lib.hid hf
  have HB := Lib.hid hb
  have HV := Lib.hid (fun k => show valT ms (k + 1) = valT ms k ++ [((mexN (leftT ms (valT ms k) k ms.length) : Nat) : Int)] from rfl)
  have HVl := Lib.hid (valT_len ms)
  have Hmex := Lib.hid (fun fs v w h1 h2 => mex_spec fs v w h1 h2)
  have Hyes := Lib.hid (fun vs n => leftT_yes ms vs n)
  have Hnos := Lib.hid (fun vs n => leftT_no ms vs n)
  have Hlls := Lib.hid (fun vs n => leftT_len ms vs n)
  have HL0 := Lib.hid (fun vs n => show leftT ms vs n 0 = [] from rfl)
  have HV0 := Lib.hid (show valT ms 0 = [] from rfl)
  clear hf hb
  generalize hVV : valT ms = V at *
  clear hVV
  generalize hLL : leftT ms = LT at *
  clear hLL
  obtain ⟨m, hm1⟩ : ∃ m, m = ms.length := ⟨_, rfl⟩
  rw [← hm1] at hm Hf HB HV
  rw [← hm1]
  clear hm1
  go_enter Try.func79, Try.ntmps79
  go_wp2
  go_loopw [5, 6] (fun out i wr => ∃ (k : Nat) (lv : Value), lv = out ∧ k ≤ n + 1 ∧ i = .int .i64 (k : Int) ∧ Hid (wr.ownsRow w.heap.size 2 1 out (V k).length ((V k).map (Value.int .i64))) ∧ Hid (Below w.heap.size w wr)) (fun _ i _ => n + 1 - (intOf i).toNat)
  case atStart => exact ⟨0, _, rfl, Nat.zero_le _, rfl, Lib.hid (by rw [HV0.out]; exact own_zeroY _ _ _ (Nat.le_refl _)), Lib.hid ((Below.refl _ _).alloc (Nat.le_refl _) _)⟩
  case round =>
    obtain ⟨wo, rfl⟩ : ∃ z, z = wr := ⟨_, rfl⟩
    obtain ⟨k, lv, rfl, hk, rfl, hown, hbo⟩ := hrel
    have hsz := hbo.out.size
    by_cases hlt : k < n + 1
    · have hvl := Lib.hid (HVl.out k)
      have HVs := Lib.hid (HV.out k)
      have Hy := Lib.hid (Hyes.out (V k) k)
      have Hno := Lib.hid (Hnos.out (V k) k)
      have Hll := Lib.hid (Hlls.out (V k) k)
      have H0 := Lib.hid (HL0.out (V k) k)
      have HG := Lib.hid (show Sl (Value.int .i64) 0 wo lv (V k) from (Sw.of_owns hown.out rfl).sl)
      generalize V k = Vk at *
      have hvb : Vk.length ≤ 1001 := by have := hvl.out; omega
      generalize LT Vk k = L at *
      have hown0 := hown.out
      have d1 : decide (k ≤ n) = true := decide_eq_true (by omega)
      have Hown0 := Lib.hid hown0
      clear hown0
      obtain ⟨q, cap', rfl, hg⟩ := HG.out
      have Hg := Lib.hid hg
      clear hg HG
      go_wp2
      go_loopw [7, 8] (fun l i wz => ∃ (j : Nat) (lw : Value), lw = l ∧ j ≤ m ∧ i = .int .i64 (j : Int) ∧ Hid (wz.ownsRow wo.heap.size 2 1 l (L j).length ((L j).map (Value.int .i64))) ∧ Hid (Below wo.heap.size wo wz)) (fun _ i _ => m - (intOf i).toNat)
      case atStart => exact ⟨0, _, rfl, Nat.zero_le _, rfl, Lib.hid (by rw [H0.out]; exact own_zeroY _ _ _ (Nat.le_refl _)), Lib.hid ((Below.refl _ _).alloc (Nat.le_refl _) _)⟩
      case round =>
        obtain ⟨j, lw, rfl, hj, rfl, hown, hbw⟩ := hrel
        have hsw := hbw.out.size
        by_cases hltm : j < m
        · obtain ⟨hcap, b, off, rfl, hbs, hcell⟩ := Hf.out (by omega)
          have c2 := cell_keep (hbo.out.trans (hbw.out.mono hsz)) (hcell j hltm)
          obtain ⟨x0, x1⟩ := HB.out j hltm
          have hyk := Hy.out j
          have hnk := Hno.out j
          have hlk := Hll.out j
          clear hcell
          generalize ms.getD j 0 = x at *
          by_cases hx : x ≤ (k : Int)
          · obtain ⟨r, hr⟩ : ∃ r : Nat, (k : Int) - x = r := ⟨((k : Int) - x).toNat, by omega⟩
            have Hst := Lib.hid (hyk hx)
            rw [hr, Int.toNat_natCast] at Hst
            have hrn : r < k := by omega
            have hrv : r < Vk.length := by rw [hvl.out]; exact hrn
            obtain ⟨hcap2, b2, off2, rfl, hbs2, hcell2⟩ := Hg.out (by omega)
            have c3 := cell_keep hbw.out (hcell2 r hrv)
            clear hcell2 hyk hnk
            generalize Vk.getD r 0 = y at *
            generalize L j = Lk at *
            have dx : decide (x ≤ (k : Int)) = true := decide_eq_true hx
            go_wp2_with (at_builtin; refine wpList_append_own _ rfl _ _ 25 rfl wo.heap.size 2 i0 (.int .i64 0) 1 8 (by kernel_rfl) hi hz0 hz1 hz2 rfl (by decide) _ _ _ rfl (hown.out.alloc _) ⟨wr.heap.size, 0, none⟩ 1 1 [.int .i64 (y)] rfl rfl (cell_one_new _ _ _) (one_int _) (by unfold maxLen; omega) (by omega) (by simp; omega) ?_; intro v2 w2 hown2 hgrow2 _)
            have Hown2 := Lib.hid (own_addY hown2)
            have Hb2 := Lib.hid ((hbw.out.alloc (by omega) _).grown hgrow2 (by simp; omega) (fun b hb => (hown.out.lt b hb).1))
            clear hown2 hgrow2
            go_wp2
            go_roundw
            case rel => exact ⟨j + 1, _, rfl, by omega, by go_num, Lib.hid (by rw [Hst.out]; exact Hown2.out), Hb2⟩
            case measure => simp [intOf]; omega
          · have Hst := Lib.hid (hnk (by omega))
            clear hyk hnk
            have d2 : decide (x ≤ (k : Int)) = false := decide_eq_false (by omega)
            go_wp2
            go_roundw
            case rel => exact ⟨j + 1, _, rfl, by omega, by go_num, Lib.hid (by rw [Hst.out]; exact hown.out), hbw⟩
            case measure => simp [intOf]; omega
        · obtain rfl : j = m := by omega
          have Hown1 := Lib.hid (own_laterY Hown0.out hbw.out)
          have Hr := Lib.hid (Hmex.out (L j) lw wr (by have := Hll.out j; omega) (Sw.of_owns hown.out rfl).sl)
          have Hb1 := Lib.hid (hbo.out.trans (hbw.out.mono hsz))
          clear Hown0 hown hbo
          generalize L j = Lj at *
          generalize mexN Lj = M at *
          go_wp2_with fail
          refine (Hr.out).mono ?_
          rintro e w2 ⟨rfl, dn, rfl⟩
          have Hown3 := Lib.hid (own_laterY Hown1.out (below_drewN (Below.refl _ wr) dn))
          have Hb3 := Lib.hid (below_drewN Hb1.out dn)
          clear Hown1 Hb1 Hr
          go_wp2_with (at_builtin; refine wpList_append_own _ rfl _ _ 25 rfl w.heap.size 2 i0 (.int .i64 0) 1 8 (by kernel_rfl) hi hz0 hz1 hz2 rfl (by decide) _ _ _ rfl (Hown3.out.alloc _) ⟨wr.heap.size, 0, none⟩ 1 1 [.int .i64 ((M : Int))] rfl rfl (cell_one_new _ _ _) (one_int _) (by unfold maxLen; omega) (by omega) (by simp; omega) ?_; intro v2 w2 hown2 hgrow2 _)
          have Hown2 := Lib.hid (own_addY hown2)
          have Hb2 := Lib.hid ((Hb3.out.alloc (by simp; omega) _).grown hgrow2 (by simp; omega) (fun b hb => (Hown3.out.lt b hb).1))
          clear hown2 hgrow2
          go_wp2
          go_roundw
          case rel => exact ⟨k + 1, _, rfl, by omega, by go_num, Lib.hid (by rw [HVs.out]; exact Hown2.out), Hb2⟩
          case measure => simp [intOf]; omega
    · obtain rfl : k = n + 1 := by omega
      have d1 : decide (n + 1 ≤ n) = false := decide_eq_false (by omega)
      go_wp2
      go_ret
      exact ⟨_, rfl, Sw.of_owns hown.out rfl, hbo.out⟩
set_option maxHeartbeats 4000000 in
theorem spec_TakeValues (fs : List Int) (v : Value) (a : Int) (al : -9223372036854775808 ≤ a) (au : a ≤ 9223372036854775807) (w : World) (hn : fs.length ≤ 1048576) (h : Sl (Value.int .i64) 0 w v fs) :
    Calls Try.prog 42 #[v, .int .i64 a] w fun e w' => ∃ r, e = .returned (.tuple #[r, .bool (ok_TakeValues fs a)]) ∧ Sw (Value.int .i64) 0 w' r (res_TakeValues fs a) w.heap.size w'.heap.size ∧ Below w.heap.size w w' := by
  have HM := Lib.hid (moves_spec fs v w hn h)
  have HA := Lib.hid (fun z => inC_any a 0 200 z)
  unfold ok_TakeValues res_TakeValues okTV
  cases hm : movB fs
  · rw [hm] at HM
    obtain ⟨p, cap, rfl, -⟩ := h
    clear hm
    rw [Bool.false_and, if_neg Bool.false_ne_true]
    generalize fs.length = L at *
    go_enter Try.func42, Try.ntmps42
    go_wp2_with (go_at_call 78; refine HM.out.mono ?_; rintro e w1 ⟨rfl, hd⟩; have Hd := Lib.hid hd; clear hd)
    go_ret2
    exact ⟨_, rfl, Sw.nil _ _ _ _ _ _ _, Hd.out.below _⟩
  · rw [hm] at HM
    obtain ⟨m1, m2, m3, m4⟩ := movB_at hm
    by_cases ha : 0 ≤ a ∧ a ≤ 200
    · rw [decide_eq_true ha.1, decide_eq_true ha.2] at HA
      rw [decide_eq_true ha.1, decide_eq_true ha.2, if_pos (by rfl)]
      obtain ⟨n, rfl⟩ : ∃ n : Nat, a = n := ⟨a.toNat, by omega⟩
      rw [Int.toNat_natCast]
      have HV := Lib.hid (fun w1 (hd : Drawn w w1) => valuesS_any fs v n w1 (by omega) m2 m3 (h.drawn hd))
      obtain ⟨p, cap, rfl, -⟩ := h
      clear hm m3 m4
      generalize valT fs (n + 1) = V at *
      generalize fs.length = L at *
      go_enter Try.func42, Try.ntmps42
      go_wp2_with (first | (go_at_call 78; refine HM.out.mono ?_; rintro e w1 ⟨rfl, hd⟩; have Hd := Lib.hid hd; clear hd) | (go_at_call 46; refine (HA.out _).mono ?_; rintro e w3 ⟨rfl, rfl⟩) | (go_at_call 79; refine (HV.out _ Hd.out).mono ?_; rintro e w2 ⟨r, rfl, hr, hb2⟩; have Hr := Lib.hid hr; have Hb2 := Lib.hid hb2; clear hr hb2))
      go_ret2
      have hz := (Hd.out.below w.heap.size).size
      exact ⟨_, rfl, Hr.out.mono hz (Nat.le_refl _) (Nat.le_refl _), (Hd.out.below _).trans (Hb2.out.mono hz)⟩
    · have e : (decide (0 ≤ a) && decide (a ≤ 200)) = false := by simpa using ha
      rw [e] at HA
      rw [e, Bool.and_false, if_neg Bool.false_ne_true]
      obtain ⟨p, cap, rfl, -⟩ := h
      clear hm m1 m2 m3 m4 ha e
      generalize fs.length = L at *
      go_enter Try.func42, Try.ntmps42
      go_wp2_with (first | (go_at_call 78; refine HM.out.mono ?_; rintro e w1 ⟨rfl, hd⟩; have Hd := Lib.hid hd; clear hd) | (go_at_call 46; refine (HA.out _).mono ?_; rintro e w3 ⟨rfl, rfl⟩))
      go_ret2
      exact ⟨_, rfl, Sw.nil _ _ _ _ _ _ _, Hd.out.below _⟩
end Go.Proofs.Ytglmahgbdgbbpaa
