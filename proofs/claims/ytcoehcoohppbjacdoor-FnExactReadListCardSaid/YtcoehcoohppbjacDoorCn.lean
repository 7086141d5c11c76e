/- Contracts: the model's decimal numerals read. -/
import Derived.Test.YtcoehcoohppbjacDoorCm
set_option linter.unusedVariables false
namespace Go.Proofs.YtcoehcoohppbjacDoor
open Go.RowKit Go.Shelf
theorem take_snocD (s : ByteArray) (k : Nat) (h : k < s.size) : s.data.toList.take (k + 1) = s.data.toList.take k ++ [s[k]] := by
  rw [List.take_succ_eq_append_getElem (by simpa using h)]; rfl
theorem acc_yes (s : ByteArray) (k : Nat) (h : k < s.size) (h1 : 48 ≤ s[k].toNat) (h2 : s[k].toNat ≤ 57) : accF 0 (s.data.toList.take (k + 1)) = 10 * accF 0 (s.data.toList.take k) + (s[k].toNat - 48) := by
  rw [take_snocD s k h, accF_snoc, if_pos]
  unfold dgB; rw [decide_eq_true h1, decide_eq_true h2]; rfl
theorem acc_not (s : ByteArray) (k : Nat) (h : k < s.size) (h1 : s[k].toNat < 48 ∨ 57 < s[k].toNat) : accF 0 (s.data.toList.take (k + 1)) = accF 0 (s.data.toList.take k) := by
  rw [take_snocD s k h, accF_snoc, if_neg]
  unfold dgB
  rcases h1 with h1 | h1
  · rw [decide_eq_false (by omega)]; simp
  · rw [decide_eq_false (p := s[k].toNat ≤ 57) (by omega), Bool.and_false]; simp
theorem head_at (s : ByteArray) (h : 0 < s.size) : s.data.toList.head? = some s[0] := by
  have h2 : 0 < s.data.toList.length := by simpa using h
  rw [List.head?_eq_getElem?, List.getElem?_eq_getElem h2]; rfl
theorem val_minus (s : ByteArray) (h : 0 < s.size) (h1 : s[0].toNat = 45) : valV s.data.toList = -((accF 0 s.data.toList : Nat) : Int) := by
  unfold valV
  rw [head_at s h, if_pos]
  congr 1
  exact UInt8.toNat_inj.1 h1
theorem val_plus (s : ByteArray) (h : 0 < s.size) (h1 : s[0].toNat ≠ 45) : valV s.data.toList = ((accF 0 s.data.toList : Nat) : Int) := by
  unfold valV
  rw [head_at s h, if_neg]
  intro e
  apply h1
  have : s[0] = 45 := by injection e
  rw [this]; rfl
theorem rdB_long (l : List UInt8) (h : l.length < 1 ∨ 17 < l.length) : rdB l = false := by
  unfold rdB
  rcases h with h | h
  · rw [decide_eq_false (by omega)]; simp
  · rw [decide_eq_false (p := l.length ≤ 17) (by omega)]; simp
theorem rdB_in (l : List UInt8) (h : 1 ≤ l.length) (h1 : l.length ≤ 17) : rdB l = (okV (valV l) && decide (Lib.itoa (valV l) = l)) := by
  unfold rdB
  rw [decide_eq_true h, decide_eq_true h1]; rfl
theorem rdB_out {l : List UInt8} (h : 1 ≤ l.length) (h1 : l.length ≤ 17) (h2 : okV (valV l) = false) : rdB l = false := by rw [rdB_in l h h1, h2]; rfl
theorem rdB_ne {s : ByteArray} (h : 1 ≤ s.size) (h1 : s.size ≤ 17) (h2 : ¬ decS (valV s.data.toList) = s) : rdB s.data.toList = false := by
  rw [rdB_in _ (by simpa using h) (by simpa using h1), decide_eq_false (fun e => h2 (decS_eq.2 e)), Bool.and_false]
theorem rdB_yes {s : ByteArray} (h : 1 ≤ s.size) (h1 : s.size ≤ 17) (h2 : okV (valV s.data.toList) = true) (h3 : decS (valV s.data.toList) = s) : rdB s.data.toList = true := by
  rw [rdB_in _ (by simpa using h) (by simpa using h1), h2, decide_eq_true (decS_eq.1 h3)]; rfl
theorem rdN_yes {l : List UInt8} (h : rdB l = true) : rdN l = valV l := by unfold rdN; rw [if_pos h]
theorem pow_few (k : Nat) (h : k ≤ 16) : 10 ^ k ≤ 10000000000000000 := Nat.le_trans (Nat.pow_le_pow_right (by decide) h) (by decide)
theorem pow_few2 (k : Nat) (h : k ≤ 17) : 10 ^ k ≤ 100000000000000000 := Nat.le_trans (Nat.pow_le_pow_right (by decide) h) (by decide)
set_option maxRecDepth 100000 in
set_option maxHeartbeats 4000000 in
theorem value_spec (s : ByteArray) (hs : s.size ≤ 1048576) (w : World) :
    Calls Tryd.prog 47 #[.string s] w fun e w' => e = .returned (.tuple #[.int .i64 (rdN s.data.toList), .bool (rdB s.data.toList)]) ∧ Below w.heap.size w w' := by
  by_cases hlen : s.size < 1 ∨ 17 < s.size
  · have hB := rdB_long s.data.toList (by simpa using hlen)
    have hR := Lib.hid (rd_no hB)
    have HB := Lib.hid hB
    clear hB
    by_cases d1 : s.size < 1
    · have e1 : decide ((s.size : Int) < 1) = true := decide_eq_true (by omega)
      go_enter Tryd.func47, Tryd.ntmps47
      go_wp2
      all_goals (go_ret2; exact ⟨ret2n hR.out.symm HB.out.symm, Below.refl _ _⟩)
    · have e1 : decide ((s.size : Int) < 1) = false := decide_eq_false (by omega)
      have e2 : decide (17 < (s.size : Int)) = true := decide_eq_true (by omega)
      go_enter Tryd.func47, Tryd.ntmps47
      go_wp2
      all_goals (go_ret2; exact ⟨ret2n hR.out.symm HB.out.symm, Below.refl _ _⟩)
  · have l0 : 0 < s.size := by omega
    have l1 : 1 ≤ s.size := by omega
    have l2 : s.size ≤ 17 := by omega
    clear hlen
    have e1 : decide ((s.size : Int) < 1) = false := decide_eq_false (by omega)
    have e2 : decide (17 < (s.size : Int)) = false := decide_eq_false (by omega)
    have Hyes := Lib.hid (acc_yes s)
    have Hnot := Lib.hid (acc_not s)
    have Hall := Lib.hid (show s.data.toList.take s.size = s.data.toList from List.take_of_length_le (by simp))
    have Hminus := Lib.hid (val_minus s l0)
    have Hplus := Lib.hid (val_plus s l0)
    have Hout := Lib.hid (rdB_out (l := s.data.toList) (by simpa using l1) (by simpa using l2))
    have Hne := Lib.hid (rdB_ne l1 l2)
    have Hyy := Lib.hid (rdB_yes l1 l2)
    have Hno := Lib.hid (rd_no (l := s.data.toList))
    have HyN := Lib.hid (rdN_yes (l := s.data.toList))
    have Hfew := Lib.hid pow_few
    have Hfew2 := Lib.hid pow_few2
    have Hpow := Lib.hid (fun k => show 10 ^ (k + 1) = 10 ^ k * 10 from Nat.pow_succ ..)
    have Hin := Lib.hid inV_any
    have Hdec := Lib.hid dec_spec
    have H0 := Lib.hid (show accF 0 (s.data.toList.take 0) = 0 from rfl)
    generalize rdN s.data.toList = R at *
    generalize rdB s.data.toList = B at *
    generalize valV s.data.toList = V at *
    go_enter Tryd.func47, Tryd.ntmps47
    go_wp2
    go_loop [4, 5] (fun n i => ∃ k N : Nat, k ≤ s.size ∧ i = .int .i64 k ∧ n = .int .i64 N ∧ Hid (accF 0 (s.data.toList.take k) = N ∧ N < 10 ^ k)) (fun _ i => s.size - (intOf i).toNat)
    case atStart => exact ⟨0, 0, Nat.zero_le _, rfl, rfl, Lib.hid ⟨H0.out, by decide⟩⟩
    case round =>
      obtain ⟨k, N, hk, rfl, rfl, HN⟩ := hrel
      by_cases hlt : k < s.size
      · have hN : N < 10000000000000000 := Nat.lt_of_lt_of_le HN.out.2 (Hfew.out k (by omega))
        by_cases h1 : 48 ≤ s[k].toNat
        · by_cases h2 : s[k].toNat ≤ 57
          · have HS := Lib.hid (Hyes.out k hlt h1 h2)
            have d1 : decide (48 ≤ (s[k].toNat : Int)) = true := decide_eq_true (by omega)
            have d2 : decide ((s[k].toNat : Int) ≤ 57) = true := decide_eq_true (by omega)
            go_wp2
            go_round
            case rel =>
              refine ⟨k + 1, 10 * N + (s[k].toNat - 48), by omega, by go_num, by go_num, Lib.hid ⟨by rw [HS.out, HN.out.1], ?_⟩⟩
              have := HN.out.2
              rw [Hpow.out]; omega
            case measure => simp [intOf]; omega
          · have HS := Lib.hid (Hnot.out k hlt (.inr (by omega)))
            have d1 : decide (48 ≤ (s[k].toNat : Int)) = true := decide_eq_true (by omega)
            have d2 : decide ((s[k].toNat : Int) ≤ 57) = false := decide_eq_false (by omega)
            go_wp2
            go_round
            case rel =>
              refine ⟨k + 1, N, by omega, by go_num, rfl, Lib.hid ⟨by rw [HS.out, HN.out.1], ?_⟩⟩
              have := HN.out.2
              rw [Hpow.out]; omega
            case measure => simp [intOf]; omega
        · have HS := Lib.hid (Hnot.out k hlt (.inl (by omega)))
          have d1 : decide (48 ≤ (s[k].toNat : Int)) = false := decide_eq_false (by omega)
          go_wp2
          go_round
          case rel =>
            refine ⟨k + 1, N, by omega, by go_num, rfl, Lib.hid ⟨by rw [HS.out, HN.out.1], ?_⟩⟩
            have := HN.out.2
            rw [Hpow.out]; omega
          case measure => simp [intOf]; omega
      · obtain rfl : k = s.size := by omega
        have hN : N < 100000000000000000 := Nat.lt_of_lt_of_le HN.out.2 (Hfew2.out _ (by omega))
        have HE : Hid (accF 0 s.data.toList = N) := Lib.hid (by rw [← Hall.out]; exact HN.out.1)
        clear Hyes Hnot Hall HN Hfew Hfew2 Hpow H0
        by_cases hm : s[0].toNat = 45
        · have d0 : ((s[0].toNat : Int) == 45) = true := by simp; omega
          have HV := Lib.hid (Hminus.out hm)
          rw [HE.out] at HV
          obtain rfl : V = -(N : Int) := HV.out
          clear HV HE Hminus Hplus
          cases hv : okV (-(N : Int))
          · have Hv := Lib.hid (fun z => show Calls _ _ _ z fun e w' => e = .returned (.bool false) ∧ z = w' from hv ▸ Hin.out (-(N : Int)) z)
            have HB := Lib.hid (Hout.out hv)
            have HR := Lib.hid (Hno.out HB.out)
            clear Hout Hne Hyy Hno HyN Hin Hdec hv
            go_wp2_with (go_at_call 82; refine (Hv.out _).mono ?_; rintro e w' ⟨rfl, rfl⟩)
            all_goals (go_ret2; exact ⟨ret2n HR.out.symm HB.out.symm, Below.refl _ _⟩)
          · have Hv := Lib.hid (fun z => show Calls _ _ _ z fun e w' => e = .returned (.bool true) ∧ z = w' from hv ▸ Hin.out (-(N : Int)) z)
            have Hd := Lib.hid (Hdec.out (-(N : Int)) (by omega) (by omega) w)
            by_cases hq : decS (-(N : Int)) = s
            · have HB := Lib.hid (Hyy.out hv hq)
              have HR := Lib.hid (HyN.out HB.out)
              rw [hq] at Hd
              clear Hout Hne Hyy Hno HyN Hin Hdec hv hq
              go_wp2_with (first | (go_at_call 82; refine (Hv.out _).mono ?_; rintro e w' ⟨rfl, rfl⟩) | (go_at_call 45; refine (Hd.out).mono ?_; rintro e w2 ⟨rfl, hb2⟩; have Hb2 := Lib.hid hb2; clear hb2))
              all_goals (go_ret2; exact ⟨ret2n HR.out.symm HB.out.symm, Hb2.out⟩)
            · have HB := Lib.hid (Hne.out hq)
              have HR := Lib.hid (Hno.out HB.out)
              have hne := bytes_ne hq
              generalize decS (-(N : Int)) = t at *
              clear Hout Hne Hyy Hno HyN Hin Hdec hv hq
              go_wp2_with (first | (go_at_call 82; refine (Hv.out _).mono ?_; rintro e w' ⟨rfl, rfl⟩) | (go_at_call 45; refine (Hd.out).mono ?_; rintro e w2 ⟨rfl, hb2⟩; have Hb2 := Lib.hid hb2; clear hb2))
              all_goals (go_ret2; exact ⟨ret2n HR.out.symm HB.out.symm, Hb2.out⟩)
        · have d0 : ((s[0].toNat : Int) == 45) = false := by simp; omega
          have HV := Lib.hid (Hplus.out hm)
          rw [HE.out] at HV
          obtain rfl : V = (N : Int) := HV.out
          clear HV HE Hminus Hplus
          cases hv : okV ((N : Int))
          · have Hv := Lib.hid (fun z => show Calls _ _ _ z fun e w' => e = .returned (.bool false) ∧ z = w' from hv ▸ Hin.out ((N : Int)) z)
            have HB := Lib.hid (Hout.out hv)
            have HR := Lib.hid (Hno.out HB.out)
            clear Hout Hne Hyy Hno HyN Hin Hdec hv
            go_wp2_with (go_at_call 82; refine (Hv.out _).mono ?_; rintro e w' ⟨rfl, rfl⟩)
            all_goals (go_ret2; exact ⟨ret2n HR.out.symm HB.out.symm, Below.refl _ _⟩)
          · have Hv := Lib.hid (fun z => show Calls _ _ _ z fun e w' => e = .returned (.bool true) ∧ z = w' from hv ▸ Hin.out ((N : Int)) z)
            have Hd := Lib.hid (Hdec.out ((N : Int)) (by omega) (by omega) w)
            by_cases hq : decS ((N : Int)) = s
            · have HB := Lib.hid (Hyy.out hv hq)
              have HR := Lib.hid (HyN.out HB.out)
              rw [hq] at Hd
              clear Hout Hne Hyy Hno HyN Hin Hdec hv hq
              go_wp2_with (first | (go_at_call 82; refine (Hv.out _).mono ?_; rintro e w' ⟨rfl, rfl⟩) | (go_at_call 45; refine (Hd.out).mono ?_; rintro e w2 ⟨rfl, hb2⟩; have Hb2 := Lib.hid hb2; clear hb2))
              all_goals (go_ret2; exact ⟨ret2n HR.out.symm HB.out.symm, Hb2.out⟩)
            · have HB := Lib.hid (Hne.out hq)
              have HR := Lib.hid (Hno.out HB.out)
              have hne := bytes_ne hq
              generalize decS ((N : Int)) = t at *
              clear Hout Hne Hyy Hno HyN Hin Hdec hv hq
              go_wp2_with (first | (go_at_call 82; refine (Hv.out _).mono ?_; rintro e w' ⟨rfl, rfl⟩) | (go_at_call 45; refine (Hd.out).mono ?_; rintro e w2 ⟨rfl, hb2⟩; have Hb2 := Lib.hid hb2; clear hb2))
              all_goals (go_ret2; exact ⟨ret2n HR.out.symm HB.out.symm, Hb2.out⟩)
theorem spec_ReadDecimal (s : ByteArray) (w : World) (hs : s.size ≤ 1048576) :
    Calls Tryd.prog 14 #[.string s] w fun e w' => e = .returned (.tuple #[.int .i64 (res_ReadDecimal s), .bool (ok_ReadDecimal s)]) ∧ Below w.heap.size w w' := by
  have H := Lib.hid (value_spec s hs w)
  unfold res_ReadDecimal ok_ReadDecimal
  go_enter Tryd.func14, Tryd.ntmps14
  go_wp2_with (go_at_call 47; refine (H.out).mono ?_; rintro e w' ⟨rfl, hb⟩; have Hb := Lib.hid hb; clear hb)
  go_ret2
  exact ⟨rfl, Hb.out⟩
/-- what stands in the settled world: the table of powers of ten, and the library's two errors -/
def TabE (w : World) : Prop := TabP w ∧ ErrS w
theorem TabE.stays {w w' : World} (h : TabE w) (hb : Below w.heap.size w w') : TabE w' := ⟨h.1.stays hb, h.2.stays hb⟩
theorem impl_ReadDecimalE (s : ByteArray) (w : World) (hs : s.size ≤ 1048576) (ht : TabE w) :
    Calls Tryd.prog 15 #[.string s] w fun e w' => e = .returned (.tuple #[.int .i64 (res_ReadDecimal s), .bool (ok_ReadDecimal s)]) ∧ Below w.heap.size w w' := impl_ReadDecimal s w hs ht.1 ht.2
end Go.Proofs.YtcoehcoohppbjacDoor
