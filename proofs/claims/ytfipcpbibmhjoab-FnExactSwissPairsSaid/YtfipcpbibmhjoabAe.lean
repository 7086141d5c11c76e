/- Contracts: the order of players, in the program, for every two lists. -/
import Derived.Test.YtfipcpbibmhjoabAd
set_option linter.unusedVariables false
namespace Go.Proofs.Ytfipcpbibmhjoab
open Go.RowKit
/-- the order, where there is one -/
noncomputable def tieL (s o : List Int) (n : Nat) : List Nat := open Classical in if h : ∃ l, Ord s o n l then Classical.choose h else []
theorem tieL_eq {s o : List Int} {n : Nat} {l : List Nat} (h : Ord s o n l) : tieL s o n = l := by
  have hx : ∃ l, Ord s o n l := ⟨l, h⟩
  unfold tieL
  rw [dif_pos hx]
  exact (Classical.choose_spec hx).unique h
def ok_TieOrder (s o : List Int) : Bool := rB (s.length : Int) 2 16 && (decide (o.length = s.length) && (allB 0 1000 s && allB 0 1000000 o))
noncomputable def res_TieOrder (s o : List Int) : List Int := if ok_TieOrder s o = true then rowI (tieL s o s.length) else []
theorem rB_of {n : Nat} (h : rB (n : Int) 2 16 = true) : 2 ≤ n ∧ n ≤ 16 := by
  unfold rB at h
  simp only [Bool.and_eq_true, decide_eq_true_eq] at h
  omega
theorem len_TieOrder (s o : List Int) : (res_TieOrder s o).length ≤ 1048576 := by
  unfold res_TieOrder
  split
  · rename_i h
    unfold ok_TieOrder at h
    simp only [Bool.and_eq_true] at h
    have := rB_of h.1
    rw [rowI_len]
    by_cases hx : ∃ l, Ord s o s.length l
    · obtain ⟨l, hl⟩ := hx
      rw [tieL_eq hl, hl.len]; omega
    · unfold tieL; rw [dif_neg hx]; exact Nat.zero_le _
  · exact Nat.zero_le _
set_option maxRecDepth 100000 in
set_option maxHeartbeats 4000000 in
theorem tie_bad (s o : List Int) (vs vo : Value) (w : World) (hn1 : s.length ≤ 1048576) (hn2 : o.length ≤ 1048576) (hs : Sl (Value.int .i64) 0 w vs s) (ho : Sl (Value.int .i64) 0 w vo o) (hbad : ok_TieOrder s o = false) :
    Calls Try.prog 47 #[vs, vo] w fun e w' => ∃ r, e = .returned (.tuple #[r, .bool false]) ∧ Sw (Value.int .i64) 0 w' r [] w.heap.size w'.heap.size ∧ Below w.heap.size w w' := by
  have Hp := Lib.hid (fun z => players_any (s.length : Int) z)
  obtain ⟨w2, hw2⟩ : ∃ z, z = (w.alloc (.cells #[vs] 22)).alloc (.cells #[vo] 22) := ⟨_, rfl⟩
  have hB2 : Below w.heap.size w w2 := by rw [hw2]; exact ((Below.refl _ w).alloc (Nat.le_refl _) _).alloc (by simp) _
  have hz2 : w2.heap.size = w.heap.size + 2 := by rw [hw2]; simp
  have k1 : w2.cell? ⟨w.heap.size, 0, none⟩ = some vs := by rw [hw2, World.cell?_alloc_past _ _ _ (by simp)]; exact World.cell?_alloc_at _ _ _ _ rfl
  have k2 : w2.cell? ⟨w.heap.size + 1, 0, none⟩ = some vo := by rw [hw2]; exact World.cell?_alloc_at _ _ _ _ (by simp)
  have hs2 := hs.later hB2
  have ho2 := ho.later hB2
  have HS := Lib.hid (fun z (hz : Below w2.heap.size w2 z) => areW_any s vs 0 1000 z hn1 (hs2.later hz))
  have HO := Lib.hid (fun z (hz : Below w2.heap.size w2 z) => areW_any o vo 0 1000000 z hn2 (ho2.later hz))
  have HB2 := Lib.hid hB2
  have K1 := Lib.hid (fun z (hz : Below w2.heap.size w2 z) => cell_keep hz k1)
  have K2 := Lib.hid (fun z (hz : Below w2.heap.size w2 z) => cell_keep hz k2)
  unfold ok_TieOrder at hbad
  obtain ⟨p1, cap1, e1, -⟩ := hs
  obtain ⟨p2, cap2, e2, -⟩ := ho
  clear hs2 ho2 hB2 k1 k2
  generalize rB (s.length : Int) 2 16 = R1 at *
  generalize allB 0 1000 s = R2 at *
  generalize allB 0 1000000 o = R3 at *
  generalize s.length = n at *
  generalize o.length = m at *
  subst e1
  subst e2
  cases R1
  · go_enter Try.func47, Try.ntmps47
    go_wp2_with (go_at_call 95; refine (Hp.out _).mono ?_; rintro e w' ⟨rfl, rfl⟩)
    rw [← hw2]
    go_ret2
    exact ⟨_, rfl, Sw.nil _ _ _ _ _ _ _, HB2.out⟩
  by_cases hmn : m = n
  · subst hmn
    have hne : ((m : Int) != (m : Int)) = false := by simp
    rw [decide_eq_true (rfl : m = m), Bool.true_and, Bool.true_and] at hbad
    cases R2
    · go_enter Try.func47, Try.ntmps47
      go_wp2_with (go_at_call 95; refine (Hp.out _).mono ?_; rintro e w' ⟨rfl, rfl⟩)
      rw [← hw2]
      clear hw2
      refine (HS.out w2 (Below.refl _ _)).mono ?_
      rintro e w3 ⟨rfl, hb3⟩
      have HB3 := Lib.hid (HB2.out.trans (hb3.mono (by omega)))
      clear hb3
      go_wp2_with fail
      go_ret2
      exact ⟨_, rfl, Sw.nil _ _ _ _ _ _ _, HB3.out⟩
    · rw [Bool.true_and] at hbad
      subst hbad
      go_enter Try.func47, Try.ntmps47
      go_wp2_with (go_at_call 95; refine (Hp.out _).mono ?_; rintro e w' ⟨rfl, rfl⟩)
      rw [← hw2]
      clear hw2
      refine (HS.out w2 (Below.refl _ _)).mono ?_
      rintro e w3 ⟨rfl, hb3⟩
      have k3 := K2.out w3 hb3
      have HB3 := Lib.hid hb3
      clear hb3
      go_wp2_with fail
      refine (HO.out w3 HB3.out).mono ?_
      rintro e w4 ⟨rfl, hb4⟩
      have HB4 := Lib.hid (HB3.out.trans (hb4.mono HB3.out.size))
      clear hb4 k3
      go_wp2_with fail
      go_ret2
      exact ⟨_, rfl, Sw.nil _ _ _ _ _ _ _, HB2.out.trans (HB4.out.mono (by omega))⟩
  · have hne : ((m : Int) != (n : Int)) = true := by simp; omega
    have hne2 : ((m : Int) = (n : Int)) = False := eq_false (by omega)
    go_enter Try.func47, Try.ntmps47
    go_wp2_with (go_at_call 95; refine (Hp.out _).mono ?_; rintro e w' ⟨rfl, rfl⟩)
    rw [← hw2]
    go_ret2
    exact ⟨_, rfl, Sw.nil _ _ _ _ _ _ _, HB2.out⟩
theorem impl_TieOrder (s : List Int) (vs : Value) (o : List Int) (vo : Value) (w : World) (hn1 : s.length ≤ 1048576) (hs : Sl (Value.int .i64) 0 w vs s) (hn2 : o.length ≤ 1048576) (ho : Sl (Value.int .i64) 0 w vo o) :
    Calls Try.prog 47 #[vs, vo] w fun e w' => ∃ r, e = .returned (.tuple #[r, .bool (ok_TieOrder s o)]) ∧ Sw (Value.int .i64) 0 w' r (res_TieOrder s o) w.heap.size w'.heap.size ∧ Below w.heap.size w w' := by
  cases hok : ok_TieOrder s o
  · rw [show res_TieOrder s o = [] by unfold res_TieOrder; rw [hok]; rfl]
    exact tie_bad s o vs vo w hn1 hn2 hs ho hok
  · have h := hok
    unfold ok_TieOrder at h
    simp only [Bool.and_eq_true, decide_eq_true_eq] at h
    obtain ⟨h1, h2, h3, h4⟩ := h
    have h5 := rB_of h1
    refine (tie_good s o vs vo s.length w hs ho rfl h2 h5.1 h5.2 h3 h4).mono ?_
    rintro e w' ⟨r, l, rfl, hl, hr, hb⟩
    exact ⟨_, rfl, by unfold res_TieOrder; rw [if_pos hok, tieL_eq hl]; exact hr, hb⟩
end Go.Proofs.Ytfipcpbibmhjoab
