/- Contracts: a row of five ranks, in the specification. -/
import Derived.Test.YtodmaomngpnboaaHsH
import Derived.Deep.DeepCutAuto
import Derived.Deep.CutBlock
set_option linter.unusedVariables false
namespace Go.Proofs.Ytodmaomngpnboaa
open Go.RowKit

theorem fiveO_eq (a b c d e : Nat) (r : List Nat) : fiveO (a :: b :: c :: d :: e :: r) = (a == 1 && (b == 1 && (c == 1 && (d == 1 && e == 1)))) := by
  by_cases ha : a = 1 <;> by_cases hb : b = 1 <;> by_cases hc : c = 1 <;> by_cases hd : d = 1 <;> by_cases he : e = 1
  all_goals (try subst ha) <;> (try subst hb) <;> (try subst hc) <;> (try subst hd) <;> (try subst he)
  all_goals (unfold fiveO; split <;> simp_all)
def oneE (E : List Nat) (i k : Nat) : Bool := (List.range k).all fun j => E.getD (i + j) 0 == 1
theorem oneE_next (E : List Nat) (i k : Nat) : oneE E i (k + 1) = (oneE E i k && (E.getD (i + k) 0 == 1)) := by
  unfold oneE; rw [List.range_succ, List.all_append]; simp
theorem rowL_step (E : List Nat) (hE : E.length = 14) (i : Nat) (hi : i < 10) : rowL (E.drop i) (10 - i) = if oneE E i 5 = true then 13 - i else rowL (E.drop (i + 1)) (9 - i) := by
  have d0 : E.drop i = E.getD i 0 :: E.drop (i + 1) := by rw [getD_lt _ _ _ (by omega)]; exact List.drop_eq_getElem_cons _
  have d1 : E.drop (i + 1) = E.getD (i + 1) 0 :: E.drop (i + 2) := by rw [getD_lt _ _ _ (by omega)]; exact List.drop_eq_getElem_cons _
  have d2 : E.drop (i + 2) = E.getD (i + 2) 0 :: E.drop (i + 3) := by rw [getD_lt _ _ _ (by omega)]; exact List.drop_eq_getElem_cons _
  have d3 : E.drop (i + 3) = E.getD (i + 3) 0 :: E.drop (i + 4) := by rw [getD_lt _ _ _ (by omega)]; exact List.drop_eq_getElem_cons _
  have d4 : E.drop (i + 4) = E.getD (i + 4) 0 :: E.drop (i + 5) := by rw [getD_lt _ _ _ (by omega)]; exact List.drop_eq_getElem_cons _
  have e : oneE E i 5 = fiveO (E.getD i 0 :: E.drop (i + 1)) := by
    rw [d1, d2, d3, d4, fiveO_eq]
    simp [oneE, List.range, List.range.loop]
  rw [e, d0, show 10 - i = (9 - i) + 1 by omega]
  show (bif fiveO (E.getD i 0 :: E.drop (i + 1)) then 9 - i + 4 else rowL (E.drop (i + 1)) (9 - i)) = _
  rw [show 9 - i + 4 = 13 - i by omega]
  cases fiveO (E.getD i 0 :: E.drop (i + 1)) <;> rfl
def wrapC (C : List Nat) : List Nat := C ++ C.take 1
theorem wrapC_len {C : List Nat} (h : C.length = 13) : (wrapC C).length = 14 := by unfold wrapC; rw [List.length_append, List.length_take]; omega
theorem wrapC_at {C : List Nat} (h : C.length = 13) (m : Nat) (hm : m ≤ 12) : (wrapC C).getD m 0 = cAt C (12 - m) := by
  unfold wrapC cAt
  rw [show 12 - (12 - m) = m by omega, List.getD, List.getD, List.getElem?_append_left (by omega)]
theorem wrapC_last {C : List Nat} (h : C.length = 13) : (wrapC C).getD 13 0 = cAt C 12 := by
  unfold wrapC cAt
  rw [List.getD, List.getD, List.getElem?_append_right (by omega), h]
  show ((C.take 1)[0]?).getD 0 = _
  rw [List.getElem?_take]; rfl
def cwC (C : List Nat) : List Int := tab 13 fun r => ((cAt C r : Nat) : Int)
theorem cwC_len (C : List Nat) : (cwC C).length = 13 := tab_len _ _
theorem cwC_get (C : List Nat) (r : Nat) (h : r < 13) : (cwC C).getD r 0 = ((cAt C r : Nat) : Int) := tab_get _ _ _ h
set_option maxRecDepth 100000 in
set_option maxHeartbeats 4000000 in
theorem row_spec (C : List Nat) (v : Value) (w : World) (hC : C.length = 13) (hle : ∀ r, cAt C r ≤ 5) (h : Sl (Value.int .i64) 0 w v (cwC C)) :
    Calls Try.prog 155 #[v] w fun e w' => e = .returned (.int .i64 ((rowC C 10 : Nat) - 1 : Int)) ∧ Drawn w w' := by
  obtain ⟨p, cap, rfl, hc⟩ := h
  obtain ⟨hcap, b, off, rfl, hbs, hcell⟩ := hc (by rw [cwC_len]; omega)
  rw [cwC_len] at *
  have Hcell := Lib.hid (fun (z : World) (hz : Drawn w z) (r : Nat) (hr : r < 13) => ((hz.cell _).trans ((hcell r hr).trans (by rw [cwC_get C r hr])) : z.cell? ⟨b, off + r, none⟩ = some (.int .i64 ((cAt C r : Nat) : Int))))
  have HE := Lib.hid (wrapC_len hC)
  have HA := Lib.hid (fun m hm => wrapC_at hC m hm)
  have HL := Lib.hid (wrapC_last hC)
  have H0 : Hid (rowL ((wrapC C).drop 0) (10 - 0) = rowC C 10) := Lib.hid rfl
  have Hle := Lib.hid hle
  clear hc hcell hC hle
  generalize rowC C 10 = RC at *
  generalize wrapC C = E at *
  go_enter Try.func155, Try.ntmps155
  go_wp2
  go_loopw [3] (fun hv wr => ∃ i : Nat, i ≤ 10 ∧ hv = .int .i64 (12 - (i : Int)) ∧ Hid (rowL (E.drop i) (10 - i) = RC) ∧ Hid (Drawn w wr)) (fun hv _ => (intOf hv + 1).toNat)
  case atStart => exact ⟨0, by omega, rfl, H0, Lib.hid (Drawn.refl _)⟩
  case round =>
    obtain ⟨i, hi, rfl, hR, hd⟩ := hrel
    by_cases hlt : i < 10
    · have d1 : decide ((3 : Int) ≤ 12 - (i : Int)) = true := decide_eq_true (by omega)
      obtain ⟨wo, rfl⟩ : ∃ z, z = wr := ⟨_, rfl⟩
      have hstep := rowL_step E HE.out i hlt
      rw [hR.out] at hstep
      have Hstep := Lib.hid hstep
      clear hstep
      go_wp2
      go_loopw [4, 5] (fun rv kv wr => ∃ k : Nat, k ≤ 5 ∧ rv = .bool (oneE E i k) ∧ kv = .int .i64 (k : Int) ∧ Hid (Drawn w wr)) (fun _ kv _ => 5 - (intOf kv).toNat)
      case atStart => exact ⟨0, by omega, rfl, rfl, hd⟩
      case round =>
        obtain ⟨k, hk, rfl, rfl, hd⟩ := hrel
        by_cases hlk : k < 5
        · have hnx := Lib.hid (oneE_next E i k)
          obtain ⟨c, hcd⟩ : ∃ c, c = E.getD (i + k) 0 := ⟨_, rfl⟩
          have hnx2 := hnx.out
          rw [← hcd] at hnx2
          have Hnx := Lib.hid hnx2
          clear hnx hnx2
          have e1 : ((c : Int) == 1) = (c == 1) := by rw [Bool.eq_iff_iff, beq_iff_eq, beq_iff_eq]; omega
          by_cases hneg : i + k ≤ 12
          · have hcc := Hcell.out wr hd.out (12 - (i + k)) (by omega)
            rw [← HA.out (i + k) hneg, ← hcd] at hcc
            have hc5 := Hle.out (12 - (i + k))
            rw [← HA.out (i + k) hneg, ← hcd] at hc5
            obtain ⟨r, hr⟩ : ∃ r, r = 12 - (i + k) := ⟨_, rfl⟩
            rw [← hr] at hcc
            have e2 := Lib.hid (show (12 : Int) - (i : Int) - (k : Int) = (r : Int) by omega)
            have hr13 : r < 13 := by omega
            have dn : decide ((r : Int) < 0) = false := decide_eq_false (by omega)
            clear hcd hr
            cases ho : oneE E i k
            · rw [ho, Bool.false_and] at Hnx
              go_upto_region 9 with fail
              rw [e2.out]
              go_wp2
              go_roundw
              case rel => exact ⟨k + 1, by omega, by rw [Hnx.out], by go_num, hd⟩
              case measure => simp [intOf]; omega
            · rw [ho, Bool.true_and] at Hnx
              go_upto_region 9 with fail
              rw [e2.out]
              go_wp2
              go_roundw
              case rel => exact ⟨k + 1, by omega, by rw [Hnx.out], by go_num, hd⟩
              case measure => simp [intOf]; omega
          · obtain rfl : i = 9 := by omega
            obtain rfl : k = 4 := by omega
            have hcc := Hcell.out wr hd.out 12 (by omega)
            have hcd2 : c = cAt C 12 := hcd.trans HL.out
            have hc5 := Hle.out 12
            rw [← hcd2] at hcc hc5
            clear hcd hcd2
            cases ho : oneE E 9 4
            · rw [ho, Bool.false_and] at Hnx
              go_wp2
              go_roundw
              case rel => exact ⟨4 + 1, by omega, by rw [Hnx.out], by go_num, hd⟩
              case measure => simp [intOf]
            · rw [ho, Bool.true_and] at Hnx
              go_wp2
              go_roundw
              case rel => exact ⟨4 + 1, by omega, by rw [Hnx.out], by go_num, hd⟩
              case measure => simp [intOf]
        · obtain rfl : k = 5 := by omega
          cases ho : oneE E i 5
          · have hst := Hstep.out
            rw [ho, if_neg Bool.false_ne_true] at hst
            have Hst : Hid (rowL (E.drop (i + 1)) (10 - (i + 1)) = RC) := Lib.hid (by rw [show 10 - (i + 1) = 9 - i by omega]; exact hst.symm)
            clear hst Hstep hR Hcell HE HA HL H0 Hle
            go_wp2
            go_roundw
            case rel => exact ⟨i + 1, by omega, by go_num, Hst, hd⟩
            case measure => simp [intOf]; omega
          · have hst := Hstep.out
            rw [ho, if_pos rfl] at hst
            have Hst := Lib.hid (show (12 : Int) - (i : Int) = (RC : Int) - 1 by omega)
            clear hst Hstep hR Hcell HE HA HL H0 Hle
            go_wp2
            go_ret
            exact ⟨ret_int Hst.out, hd.out⟩
    · obtain rfl : i = 10 := by omega
      have Hz : Hid (RC = 0) := Lib.hid (by rw [← hR.out]; show rowL (E.drop 10) 0 = 0; cases E.drop 10 <;> rfl)
      clear hR Hcell HE HA HL H0 Hle
      go_wp2
      go_ret
      exact ⟨ret_int (by rw [Hz.out]; rfl), hd.out⟩
end Go.Proofs.Ytodmaomngpnboaa
