/- Contracts: values of rows of pins: SplitValues, both whole. -/
import Derived.Test.YtglmahgbdgbbpabYh
set_option linter.unusedVariables false
namespace Go.Proofs.Ytglmahgbdgbbpab
open Go.RowKit

def okSV (n : Int) : Prop := 0 ≤ n ∧ n ≤ 60
instance (n : Int) : Decidable (okSV n) := by unfold okSV; infer_instance
def ok_SplitValues (n : Int) : Bool := decide (okSV n)
def res_SplitValues (n : Int) : List Int := if okSV n then valS (n.toNat + 1) else []
theorem len_SplitValues (n : Int) : (res_SplitValues n).length ≤ 1048576 := by
  unfold res_SplitValues
  split
  · rename_i h
    unfold okSV at h
    rw [valS_len]; omega
  · exact Nat.zero_le _
set_option maxHeartbeats 1000000 in
theorem impl_SplitValues (a : Int) (al : -9223372036854775808 ≤ a) (au : a ≤ 9223372036854775807) (w : World) :
    Calls Try.prog 16 #[.int .i64 a] w fun e w' => ∃ r, e = .returned (.tuple #[r, .bool (ok_SplitValues a)]) ∧ Sw (Value.int .i64) 0 w' r (res_SplitValues a) w.heap.size w'.heap.size ∧ Below w.heap.size w w' := by
  unfold ok_SplitValues res_SplitValues
  by_cases h : okSV a
  · rw [if_pos h, decide_eq_true h]
    unfold okSV at h
    obtain ⟨n, rfl⟩ : ∃ n : Nat, a = n := ⟨a.toNat, by omega⟩
    rw [Int.toNat_natCast]
    have HA := Lib.hid (fun z => within_yes (n : Int) 0 60 z h.1 h.2)
    have HV := Lib.hid (values_any n 54 #[] valS (fun k => leftA (valS k) k) w (by omega) rfl (fun k => rfl) valS_len (fun k hk => by have := leftA_len (valS k) k; omega)
      (run_enter Try.func54 (by kernel_rfl) (by kernel_rfl))
      (fun k v w' hk hb' hv => by
        have := clo_split (valS k) v w' (by rw [valS_len]; omega) hv
        rw [valS_len] at this
        exact this))
    generalize valS (n + 1) = V at *
    go_enter Try.func16, Try.ntmps16
    go_wp2_with (first | (go_at_call 52; (with_reducible refine (HA.out _).mono ?_); rintro e w3 ⟨rfl, rfl⟩) | (go_at_call 53; (refine HV.out.mono ?_); rintro e w2 ⟨r, rfl, hr, hb2⟩; have Hr := Lib.hid hr; have Hb2 := Lib.hid hb2; clear hr hb2))
    go_ret2
    exact ⟨_, rfl, Hr.out, Hb2.out⟩
  · rw [if_neg h, decide_eq_false h]
    unfold okSV at h
    have HA := Lib.hid (fun z => within_no a 0 60 z (by omega))
    clear h
    go_enter Try.func16, Try.ntmps16
    go_wp2_with (go_at_call 52; (with_reducible refine (HA.out _).mono ?_); rintro e w3 ⟨rfl, rfl⟩)
    go_ret2
    exact ⟨_, rfl, Sw.nil _ _ _ _ _ _ _, Below.refl _ _⟩
set_option maxRecDepth 100000 in
set_option maxHeartbeats 8000000 in
theorem split_spec (n : Nat) (w : World) (hn : n ≤ 60) :
    Calls Try.prog 15 #[.int .i64 (n : Int)] w fun e w' => ∃ r, e = .returned (.tuple #[r, .bool true]) ∧ Sw (Value.int .i64) 0 w' r (valS (n + 1)) w.heap.size w'.heap.size ∧ Below w.heap.size w w' := by
  obtain ⟨i0, hi, hz0, hz1, hz2⟩ := info_parts (show (Try.prog.info? 2).map (fun i => (i.zero, i.size, i.bytes)) = some (some (.int .i64 0), 1, 8) by kernel_rfl)
  have HIn := Lib.hid (fun z => in_yes (n : Int) 0 60 z (by omega) (by omega))
  have HV := Lib.hid (fun k => show valS (k + 1) = valS k ++ [((mexN (accA (valS k) k 2) : Nat) : Int)] from rfl)
  have HV0 := Lib.hid (show valS 0 = [] from rfl)
  have HVl := Lib.hid valS_len
  have HA0 := Lib.hid (fun vs n => show accA vs n 0 = [] from rfl)
  have HA := Lib.hid (fun vs n t => show accA vs n (t + 1) = leftS (accA vs n t) vs n (t + 1) (n - t) from rfl)
  have HS0 := Lib.hid (fun acc vs n t => show leftS acc vs n t 0 = acc from rfl)
  have HS := Lib.hid (fun acc vs n t i => show leftS acc vs n t (i + 1) = leftS acc vs n t i ++ [bits .xor .i64 (vs.getD i 0) (vs.getD (n - t - i) 0)] from rfl)
  have HSl := Lib.hid (fun acc vs n t i => leftS_len acc vs n t i)
  have HAl := Lib.hid accA_len
  have Hmex := Lib.hid (fun fs v w h1 h2 => mex_spec fs v w h1 h2)
  generalize hAA : accA = AA at *
  clear hAA
  generalize hVV : valS = V at *
  clear hVV
  generalize hLS : leftS = LS at *
  clear hLS
  go_enter Try.func15, Try.ntmps15
  go_wp2_with (go_at_call 50; (with_reducible refine (HIn.out _).mono ?_); rintro e w3 ⟨rfl, rfl⟩)
  go_loopw [4, 5] (fun out i wr => ∃ (k : Nat) (lv : Value), lv = out ∧ k ≤ n + 1 ∧ i = .int .i64 (k : Int) ∧ Hid (wr.ownsRow w.heap.size 2 1 out (V k).length ((V k).map (Value.int .i64))) ∧ Hid (Below w.heap.size w wr)) (fun _ i _ => n + 1 - (intOf i).toNat)
  case atStart => exact ⟨0, _, rfl, Nat.zero_le _, rfl, Lib.hid (by rw [HV0.out]; exact own_zeroY _ _ _ (Nat.le_refl _)), Lib.hid ((Below.refl _ _).alloc (Nat.le_refl _) _)⟩
  case round =>
    obtain ⟨wo, rfl⟩ : ∃ z, z = wr := ⟨_, rfl⟩
    obtain ⟨k, lv, rfl, hk, rfl, hown, hbo⟩ := hrel
    have hsz := hbo.out.size
    by_cases hlt : k < n + 1
    · have hvl := Lib.hid (HVl.out k)
      have HVs := Lib.hid (HV.out k)
      have HAt := Lib.hid (HA.out (V k) k)
      have HA00 := Lib.hid (HA0.out (V k) k)
      have HAl2 := Lib.hid (HAl.out (V k) k)
      have HS02 := Lib.hid (fun acc t => HS0.out acc (V k) k t)
      have HS2 := Lib.hid (fun acc t i => HS.out acc (V k) k t i)
      have HSl2 := Lib.hid (fun acc t i => HSl.out acc (V k) k t i)
      have HG := Lib.hid (show Sl (Value.int .i64) 0 wo lv (V k) from (Sw.of_owns hown.out rfl).sl)
      generalize V k = Vk at *
      have hvb : Vk.length ≤ 61 := by have := hvl.out; omega
      generalize AA Vk k = A at *
      have d1 : decide (k ≤ n) = true := decide_eq_true (by omega)
      have Hown0 := Lib.hid hown.out
      clear hown
      obtain ⟨q, cap', rfl, hg⟩ := HG.out
      have Hg := Lib.hid hg
      clear hg HG HA HA0 HAl HS0 HSl
      have hbs0 : ∀ z, z ≤ z := fun z => Nat.le_refl z
      clear hbs0
      go_wp2
      go_loopw [6, 7] (fun l i wm => ∃ (t : Nat) (lw : Value), lw = l ∧ t ≤ 2 ∧ i = .int .i64 ((t : Int) + 1) ∧ Hid (wm.ownsRow wo.heap.size 2 1 l (A t).length ((A t).map (Value.int .i64))) ∧ Hid (Below wo.heap.size wo wm)) (fun _ i _ => 4 - (intOf i).toNat)
      case atStart => exact ⟨0, _, rfl, by omega, by go_num, Lib.hid (by rw [HA00.out]; exact own_zeroY _ _ _ (Nat.le_refl _)), Lib.hid ((Below.refl _ _).alloc (Nat.le_refl _) _)⟩
      case round =>
        obtain ⟨wm, rfl⟩ : ∃ z, z = wr := ⟨_, rfl⟩
        obtain ⟨t, lw, rfl, ht, rfl, hown, hbm⟩ := hrel
        have hszm := hbm.out.size
        by_cases hltt : t < 2
        · obtain ⟨T, hT⟩ : ∃ T : Nat, T = t + 1 := ⟨_, rfl⟩
          have hT2 : (t : Int) + 1 = (T : Int) := by omega
          rw [hT2]
          have hal := HAl2.out t
          have hal2 : (A t).length ≤ 200 := by
            obtain rfl | rfl : t = 0 ∨ t = 1 := by omega
            · omega
            · omega
          have HAtt := Lib.hid (HAt.out t)
          rw [← hT] at HAtt
          have HTt := Lib.hid (show ((T : Int)) + 1 = ((t + 1 : Nat) : Int) + 1 by omega)
          have HtT := Lib.hid hT
          have hT1 : 1 ≤ T := by omega
          have hT3 : T ≤ 2 := by omega
          have d2 : decide ((T : Int) ≤ 2) = true := decide_eq_true (by omega)
          have d3 : decide (T ≤ 2) = true := decide_eq_true (by omega)
          have hown0 := Lib.hid (show wm.ownsRow wo.heap.size 2 1 lw (LS (A t) Vk k T 0).length ((LS (A t) Vk k T 0).map (Value.int .i64)) by rw [HS02.out]; exact hown.out)
          have Hst := Lib.hid (HS2.out (A t) T)
          have Hsl := Lib.hid (HSl2.out (A t) T)
          have Hnt := Lib.hid (show k - t = k + 1 - T by omega)
          clear hown hT hT2 hal
          generalize A t = At at *
          generalize LS At Vk k T = L at *
          obtain ⟨M, hM⟩ : ∃ M : Nat, M = k + 1 - T := ⟨_, rfl⟩
          have hMn : M = k + 1 - T := hM
          have HM := Lib.hid hM
          clear hM
          have hMle : M ≤ k := by omega
          have hMa : ∀ j : Nat, j < M → (j : Int) + (T : Int) ≤ (k : Int) := fun j hj => by omega
          have hMb : ¬ ((M : Int) + (T : Int) ≤ (k : Int)) := by omega
          have hMc : ∀ j : Nat, j < M → j < k ∧ k - T - j < k ∧ (k : Int) - (T : Int) - (j : Int) = ((k - T - j : Nat) : Int) := fun j hj => by omega
          have HMa := Lib.hid hMa
          have HMb := Lib.hid hMb
          have HMc := Lib.hid hMc
          clear hMa hMb hMc hMn
          go_wp2
          go_loopw [6, 8] (fun l i wz => ∃ (j : Nat) (lx : Value), lx = l ∧ j ≤ M ∧ i = .int .i64 (j : Int) ∧ Hid (wz.ownsRow wo.heap.size 2 1 l (L j).length ((L j).map (Value.int .i64))) ∧ Hid (Below wo.heap.size wo wz)) (fun _ i _ => M - (intOf i).toNat)
          case atStart => exact ⟨0, _, rfl, Nat.zero_le _, rfl, hown0, hbm⟩
          case round =>
            obtain ⟨j, lx, rfl, hj, rfl, hown, hbw⟩ := hrel
            have hsw := hbw.out.size
            by_cases hltj : j < M
            · have hvk := hvl.out
              obtain ⟨hcap, b, off, rfl, hbs, hcell⟩ := Hg.out (by omega)
              have hja := HMa.out j hltj
              obtain ⟨hjk, hrk, e1⟩ := HMc.out j hltj
              obtain ⟨r, hr⟩ : ∃ r : Nat, r = k - T - j := ⟨_, rfl⟩
              rw [← hr] at hrk e1
              have hst := Hst.out j
              rw [← hr] at hst
              have c1 := cell_keep hbw.out (hcell j (by omega))
              have c2 := cell_keep hbw.out (hcell r (by omega))
              have Hst2 := Lib.hid hst
              have hsl := Hsl.out j
              have hsb : (L j).length ≤ 400 := by omega
              have hw1 : IntKind.i64.wrap ((k : Int) - (T : Int)) = (k : Int) - (T : Int) := IntWalk.i64_in _ (by omega)
              have hw2 : IntKind.i64.wrap ((k : Int) - (T : Int) - (j : Int)) = (r : Int) := by rw [e1]; exact IntWalk.i64_in _ (by omega)
              have hjv : (j : Int) < (Vk.length : Int) := by omega
              have hrv : (r : Int) < (Vk.length : Int) := by omega
              have hcapv : Vk.length ≤ cap' := hcap
              have da : decide ((j : Int) + (T : Int) ≤ (k : Int)) = true := decide_eq_true hja
              clear hcell hst hsl hr e1 hvk
              have hobk : b < wo.heap.size := hbs
              generalize Vk.getD j 0 = x at *
              generalize Vk.getD r 0 = y at *
              generalize L j = Lj at *
              have hjn : j < k := hjk
              have hrn : r < k := hrk
              have hob := own_neY hown.out hobk
              have hj0 : (0 : Int) ≤ (j : Int) := Int.natCast_nonneg _
              have hj1 : (j : Int) < (Vk.length : Int) := by omega
              have hr0 : (0 : Int) ≤ (r : Int) := Int.natCast_nonneg _
              have hr1 : (r : Int) < (Vk.length : Int) := by omega
              have hcap2 : (Vk.length : Int) ≤ (cap' : Int) := by omega
              have hmax : Lj.length + 1 ≤ maxLen := by unfold maxLen; omega
              have hby : (Lj.length + 1) * 8 ≤ 140737488355328 := by omega
              have hsx : wo.heap.size ≤ wr.heap.size + 1 := by omega
              go_wp2_with fail
              go_region_law ((refine step_append_lies _ (by rfl) _ _ _ (by rfl) wo.heap.size 2 i0 _ 1 8 (by kernel_rfl) hi hz0 hz1 hz2 rfl (by omega) _ Lj.length _ (by rfl) ((hown.out.alloc _).drew) ⟨wr.heap.size, 0, none⟩ 1 1 [.int .i64 (bits .xor .i64 x y)] (by rfl) (by rfl) (cell_one_new _ _ _) (one_int _) (by omega) hmax hby (by first | (simp; exact hsx) | simp) (wr.heap.size + 1) (by simp) ?_; intro g cp w2 hown2 hgrow hat hlt2))

              all_goals
                have Hown2 := Lib.hid (own_addY hown2)
                have Hb2 := Lib.hid (((hbw.out.alloc (by omega) _).drew).grown hgrow (by first | (simp; exact hsx) | simp) (fun b hb => (hown.out.lt b hb).1))
                clear hown2 hgrow hw1 hw2 hat
                go_wp2
                go_roundw
                case rel => exact ⟨j + 1, _, rfl, by omega, by go_num, Lib.hid (by rw [Hst2.out]; exact Hown2.out), Hb2⟩
                case measure => simp [intOf]; omega
            · obtain rfl : j = M := by omega
              have HAn := Lib.hid (show A (t + 1) = L j by rw [← HtT.out, HAtt.out, Hnt.out, HM.out])
              have da : decide ((j : Int) + (T : Int) ≤ (k : Int)) = false := decide_eq_false (by have := HMb.out; omega)
              have db := HMb.out
              go_wp2
              go_roundw
              case rel => exact ⟨t + 1, _, rfl, by omega, by rw [← HTt.out], Lib.hid (by rw [HAn.out]; exact hown.out), hbw⟩
              case measure => simp [intOf]; omega
        · obtain rfl : t = 2 := by omega
          have hal := HAl2.out 2
          have hal2 : (A 2).length ≤ 200 := by omega
          have Hown1 := Lib.hid (own_laterY Hown0.out hbm.out)
          have Hr := Lib.hid (Hmex.out (A 2) lw wm (by omega) (Sw.of_owns hown.out rfl).sl)
          have Hb1 := Lib.hid (hbo.out.trans (hbm.out.mono hsz))
          clear Hown0 hown hbo hal
          generalize A 2 = Lj at *
          generalize mexN Lj = M at *
          go_wp2_with fail
          refine (Hr.out).mono ?_
          rintro e w2 ⟨rfl, dn, rfl⟩
          have Hown3 := Lib.hid (own_laterY Hown1.out (below_drewN (Below.refl _ wm) dn))
          have Hb3 := Lib.hid (below_drewN Hb1.out dn)
          clear Hown1 Hb1 Hr
          go_wp2_with (at_builtin; refine wpList_append_own _ rfl _ _ 22 rfl w.heap.size 2 i0 (.int .i64 0) 1 8 (by kernel_rfl) hi hz0 hz1 hz2 rfl (by decide) _ _ _ rfl (Hown3.out.alloc _) ⟨wm.heap.size, 0, none⟩ 1 1 [.int .i64 ((M : Int))] rfl rfl (cell_one_new _ _ _) (one_int _) (by unfold maxLen; omega) (by omega) (by simp; omega) ?_; intro v2 w2 hown2 hgrow2 _)
          have Hown2 := Lib.hid (own_addY hown2)
          have Hb2 := Lib.hid ((Hb3.out.alloc (by simp; omega) _).grown hgrow2 (by simp; omega) (fun b hb => (Hown3.out.lt b hb).1))
          clear hown2 hgrow2
          go_wp2
          go_roundw
          case rel => exact ⟨k + 1, _, rfl, by omega, by go_num, Lib.hid (by rw [HVs.out]; exact Hown2.out), Hb2⟩
          case measure => simp [intOf]; omega
    · obtain rfl : k = n + 1 := by omega
      have d1 : decide (n + 1 ≤ n) = false := decide_eq_false (by omega)
      go_wp2
      go_ret2
      exact ⟨_, rfl, Sw.of_owns hown.out rfl, hbo.out⟩
theorem spec_SplitValues (a : Int) (al : -9223372036854775808 ≤ a) (au : a ≤ 9223372036854775807) (w : World) :
    Calls Try.prog 15 #[.int .i64 a] w fun e w' => ∃ r, e = .returned (.tuple #[r, .bool (ok_SplitValues a)]) ∧ Sw (Value.int .i64) 0 w' r (res_SplitValues a) w.heap.size w'.heap.size ∧ Below w.heap.size w w' := by
  unfold ok_SplitValues res_SplitValues
  by_cases h : okSV a
  · rw [if_pos h, decide_eq_true h]
    unfold okSV at h
    obtain ⟨n, rfl⟩ : ∃ n : Nat, a = n := ⟨a.toNat, by omega⟩
    rw [Int.toNat_natCast]
    exact split_spec n w (by omega)
  · rw [if_neg h, decide_eq_false h]
    unfold okSV at h
    have HA := Lib.hid (fun z => in_no a 0 60 z (by omega))
    clear h
    go_enter Try.func15, Try.ntmps15
    go_wp2_with (go_at_call 50; (with_reducible refine (HA.out _).mono ?_); rintro e w3 ⟨rfl, rfl⟩)
    go_ret2
    exact ⟨_, rfl, Sw.nil _ _ _ _ _ _ _, Below.refl _ _⟩
end Go.Proofs.Ytglmahgbdgbbpab
