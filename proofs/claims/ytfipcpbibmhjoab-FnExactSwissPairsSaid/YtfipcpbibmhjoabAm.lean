/- Contracts: pairs of players, in the program, for every two lists. -/
import Derived.Test.YtfipcpbibmhjoabAl
set_option linter.unusedVariables false
namespace Go.Proofs.Ytfipcpbibmhjoab
open Go.RowKit
set_option maxRecDepth 100000 in
set_option maxHeartbeats 4000000 in
theorem swiss_bad1 (s M : List Int) (vs vM : Value) (n : Nat) (w : World) (hn1 : s.length ≤ 1048576) (hn2 : M.length ≤ 1048576) (hs : Sl (Value.int .i64) 0 w vs s) (hM : Sl (Value.int .i64) 0 w vM M) (hn : s.length = n) (hbad : ok_TieOrder s (zerosI n) = false) :
    Calls Try.prog 13 #[vs, vM] w fun e w' => ∃ r, e = .returned (.tuple #[r, .bool false]) ∧ Sw (Value.int .i64) 0 w' r [] w.heap.size w'.heap.size ∧ Below w.heap.size w w' := by
  obtain ⟨i0, hi, hz0, hz1, hz2⟩ := info_parts (show (Try.prog.info? 2).map (fun i => (i.zero, i.size, i.bytes)) = some (some (.int .i64 0), 1, 8) by kernel_rfl)
  obtain ⟨p2, cap2, e2, -⟩ : ∃ p cap, vM = .slice p M.length cap ∧ True := by obtain ⟨p, cap, e, -⟩ := hM; exact ⟨p, cap, e, trivial⟩
  subst e2
  obtain ⟨w1, hw1⟩ : ∃ z, z = w.alloc (.cells #[.slice p2 M.length cap2] 22) := ⟨_, rfl⟩
  have hB1 : Below w.heap.size w w1 := by rw [hw1]; exact (Below.refl _ w).alloc (Nat.le_refl _) _
  have hzz1 : w1.heap.size = w.heap.size + 1 := by rw [hw1]; simp
  have k3w1 : w1.cell? ⟨w.heap.size, 0, none⟩ = some (.slice p2 M.length cap2) := by rw [hw1]; exact World.cell?_alloc_at _ _ _ _ rfl
  have hs1 := hs.later hB1
  have hM1 := hM.later hB1
  have HT := Lib.hid (fun vz z (hz : Below w1.heap.size w1 z) (hv : Sl (Value.int .i64) 0 z vz (zerosI n)) => impl_TieOrder s vs (zerosI n) vz z (by omega) (hs1.later hz) (by rw [zerosI_len]; omega) hv)
  have HB1 := Lib.hid hB1
  have hcell : (madeCells (Value.int .i64 0).cells (n * 1)).toList = (zerosI n).map (Value.int .i64) := by
    rw [zerosI, Nat.mul_one, List.map_replicate]; exact made1 _ n
  obtain ⟨p1, cap1, e1, -⟩ := hs
  rw [hn] at e1
  subst e1
  rw [hbad] at HT
  clear hs1 hM1 hM hB1 hbad
  go_enter Try.func13, Try.ntmps13
  go_wp2_with (at_make; refine wpList_make_full _ rfl _ _ 22 rfl (w.heap.size + 1) 2 i0 (.int .i64 0) 1 (by kernel_rfl) hi hz0 hz1 .i64 .i64 n n n rfl rfl rfl rfl (by rw [hz2]; omega) (by unfold maxLen; omega) (by simp) ?_; intro w2 hown hgrow)
  rw [hcell] at hown
  have hB12 : Below w1.heap.size w1 w2 := by
    rw [hw1]
    exact (Below.refl _ _).grown hgrow (Nat.le_refl _) (by simp)
  have hzs := (Sw.of_owns (d := 0) hown (zerosI_len n)).sl
  simp only [World.size_alloc] at hzs
  clear hown hgrow hcell hw1
  refine (HT.out _ w2 hB12 hzs).mono ?_
  rintro e w3 ⟨rr, rfl, hsw, hb3⟩
  have HB3 := Lib.hid (hB12.trans (hb3.mono hB12.size))
  have k3 := cell_keep HB3.out k3w1
  have hsz3 := HB3.out.size
  have hn0 : w.heap.size < w3.heap.size := by omega
  have HB4 := Lib.hid (HB3.out.alloc HB3.out.size (.cells #[.int .i64 (n : Int)] 3))
  have k4 : (w3.alloc (.cells #[.int .i64 (n : Int)] 3)).cell? ⟨w.heap.size, 0, none⟩ = some (.slice p2 M.length cap2) := by rw [World.cell?_alloc_past _ _ _ hn0]; exact k3
  have k8 : (w3.alloc (.cells #[.int .i64 (n : Int)] 3)).cell? ⟨w3.heap.size, 0, none⟩ = some (.int .i64 (n : Int)) := World.cell?_alloc_at _ _ _ _ rfl
  clear hsw hzs hb3 hB12 HT
  go_wp2_with fail
  go_ret2
  exact ⟨_, rfl, Sw.nil _ _ _ _ _ _ _, HB1.out.trans (HB4.out.mono (by omega))⟩
set_option maxRecDepth 100000 in
set_option maxHeartbeats 4000000 in
theorem swiss_bad2 (s M : List Int) (vs vM : Value) (n : Nat) (w : World) (hn1 : s.length ≤ 1048576) (hn2 : M.length ≤ 1048576) (hs : Sl (Value.int .i64) 0 w vs s) (hM : Sl (Value.int .i64) 0 w vM M) (hn : s.length = n) (hok : ok_TieOrder s (zerosI n) = true) (hodd : n % 2 = 1) :
    Calls Try.prog 13 #[vs, vM] w fun e w' => ∃ r, e = .returned (.tuple #[r, .bool false]) ∧ Sw (Value.int .i64) 0 w' r [] w.heap.size w'.heap.size ∧ Below w.heap.size w w' := by
  obtain ⟨i0, hi, hz0, hz1, hz2⟩ := info_parts (show (Try.prog.info? 2).map (fun i => (i.zero, i.size, i.bytes)) = some (some (.int .i64 0), 1, 8) by kernel_rfl)
  obtain ⟨p2, cap2, e2, -⟩ : ∃ p cap, vM = .slice p M.length cap ∧ True := by obtain ⟨p, cap, e, -⟩ := hM; exact ⟨p, cap, e, trivial⟩
  subst e2
  obtain ⟨w1, hw1⟩ : ∃ z, z = w.alloc (.cells #[.slice p2 M.length cap2] 22) := ⟨_, rfl⟩
  have hB1 : Below w.heap.size w w1 := by rw [hw1]; exact (Below.refl _ w).alloc (Nat.le_refl _) _
  have hzz1 : w1.heap.size = w.heap.size + 1 := by rw [hw1]; simp
  have k3w1 : w1.cell? ⟨w.heap.size, 0, none⟩ = some (.slice p2 M.length cap2) := by rw [hw1]; exact World.cell?_alloc_at _ _ _ _ rfl
  have hs1 := hs.later hB1
  have hM1 := hM.later hB1
  have HT := Lib.hid (fun vz z (hz : Below w1.heap.size w1 z) (hv : Sl (Value.int .i64) 0 z vz (zerosI n)) => impl_TieOrder s vs (zerosI n) vz z (by omega) (hs1.later hz) (by rw [zerosI_len]; omega) hv)
  have HB1 := Lib.hid hB1
  have hcell : (madeCells (Value.int .i64 0).cells (n * 1)).toList = (zerosI n).map (Value.int .i64) := by
    rw [zerosI, Nat.mul_one, List.map_replicate]; exact made1 _ n
  obtain ⟨p1, cap1, e1, -⟩ := hs
  rw [hn] at e1
  subst e1
  rw [hok] at HT
  have hmod : (n : Int).tmod 2 = 1 := by rw [Int.tmod_eq_emod_of_nonneg (by omega)]; omega
  clear hs1 hM1 hM hB1 hok
  go_enter Try.func13, Try.ntmps13
  go_wp2_with (at_make; refine wpList_make_full _ rfl _ _ 22 rfl (w.heap.size + 1) 2 i0 (.int .i64 0) 1 (by kernel_rfl) hi hz0 hz1 .i64 .i64 n n n rfl rfl rfl rfl (by rw [hz2]; omega) (by unfold maxLen; omega) (by simp) ?_; intro w2 hown hgrow)
  rw [hcell] at hown
  have hB12 : Below w1.heap.size w1 w2 := by
    rw [hw1]
    exact (Below.refl _ _).grown hgrow (Nat.le_refl _) (by simp)
  have hzs := (Sw.of_owns (d := 0) hown (zerosI_len n)).sl
  simp only [World.size_alloc] at hzs
  clear hown hgrow hcell hw1
  refine (HT.out _ w2 hB12 hzs).mono ?_
  rintro e w3 ⟨rr, rfl, hsw, hb3⟩
  have HB3 := Lib.hid (hB12.trans (hb3.mono hB12.size))
  have k3 := cell_keep HB3.out k3w1
  have hsz3 := HB3.out.size
  have hn0 : w.heap.size < w3.heap.size := by omega
  have HB4 := Lib.hid (HB3.out.alloc HB3.out.size (.cells #[.int .i64 (n : Int)] 3))
  have k4 : (w3.alloc (.cells #[.int .i64 (n : Int)] 3)).cell? ⟨w.heap.size, 0, none⟩ = some (.slice p2 M.length cap2) := by rw [World.cell?_alloc_past _ _ _ hn0]; exact k3
  have k8 : (w3.alloc (.cells #[.int .i64 (n : Int)] 3)).cell? ⟨w3.heap.size, 0, none⟩ = some (.int .i64 (n : Int)) := World.cell?_alloc_at _ _ _ _ rfl
  clear hsw hzs hb3 hB12 HT
  go_wp2_with fail
  go_ret2
  exact ⟨_, rfl, Sw.nil _ _ _ _ _ _ _, HB1.out.trans (HB4.out.mono (by omega))⟩
set_option maxRecDepth 100000 in
set_option maxHeartbeats 4000000 in
theorem swiss_bad3 (s M : List Int) (vs vM : Value) (n : Nat) (w : World) (hn1 : s.length ≤ 1048576) (hn2 : M.length ≤ 1048576) (hs : Sl (Value.int .i64) 0 w vs s) (hM : Sl (Value.int .i64) 0 w vM M) (hn : s.length = n) (hok : ok_TieOrder s (zerosI n) = true) (hev : n % 2 = 0) (h16 : n ≤ 16) (hm : ¬ metP n M) :
    Calls Try.prog 13 #[vs, vM] w fun e w' => ∃ r, e = .returned (.tuple #[r, .bool false]) ∧ Sw (Value.int .i64) 0 w' r [] w.heap.size w'.heap.size ∧ Below w.heap.size w w' := by
  obtain ⟨i0, hi, hz0, hz1, hz2⟩ := info_parts (show (Try.prog.info? 2).map (fun i => (i.zero, i.size, i.bytes)) = some (some (.int .i64 0), 1, 8) by kernel_rfl)
  obtain ⟨p2, cap2, e2, -⟩ : ∃ p cap, vM = .slice p M.length cap ∧ True := by obtain ⟨p, cap, e, -⟩ := hM; exact ⟨p, cap, e, trivial⟩
  subst e2
  obtain ⟨w1, hw1⟩ : ∃ z, z = w.alloc (.cells #[.slice p2 M.length cap2] 22) := ⟨_, rfl⟩
  have hB1 : Below w.heap.size w w1 := by rw [hw1]; exact (Below.refl _ w).alloc (Nat.le_refl _) _
  have hzz1 : w1.heap.size = w.heap.size + 1 := by rw [hw1]; simp
  have k3w1 : w1.cell? ⟨w.heap.size, 0, none⟩ = some (.slice p2 M.length cap2) := by rw [hw1]; exact World.cell?_alloc_at _ _ _ _ rfl
  have hs1 := hs.later hB1
  have hM1 := hM.later hB1
  have HT := Lib.hid (fun vz z (hz : Below w1.heap.size w1 z) (hv : Sl (Value.int .i64) 0 z vz (zerosI n)) => impl_TieOrder s vs (zerosI n) vz z (by omega) (hs1.later hz) (by rw [zerosI_len]; omega) hv)
  have HB1 := Lib.hid hB1
  have hcell : (madeCells (Value.int .i64 0).cells (n * 1)).toList = (zerosI n).map (Value.int .i64) := by
    rw [zerosI, Nat.mul_one, List.map_replicate]; exact made1 _ n
  obtain ⟨p1, cap1, e1, -⟩ := hs
  rw [hn] at e1
  subst e1
  rw [hok] at HT
  have HM := Lib.hid (fun z (hz : Below w1.heap.size w1 z) => areMet_any M (.slice p2 M.length cap2) n z h16 hn2 (hM1.later hz))
  rw [metB_no hm] at HM
  have hmod : (n : Int).tmod 2 = 0 := by rw [Int.tmod_eq_emod_of_nonneg (by omega)]; omega
  clear hs1 hM1 hM hB1 hok hm
  go_enter Try.func13, Try.ntmps13
  go_wp2_with (at_make; refine wpList_make_full _ rfl _ _ 22 rfl (w.heap.size + 1) 2 i0 (.int .i64 0) 1 (by kernel_rfl) hi hz0 hz1 .i64 .i64 n n n rfl rfl rfl rfl (by rw [hz2]; omega) (by unfold maxLen; omega) (by simp) ?_; intro w2 hown hgrow)
  rw [hcell] at hown
  have hB12 : Below w1.heap.size w1 w2 := by
    rw [hw1]
    exact (Below.refl _ _).grown hgrow (Nat.le_refl _) (by simp)
  have hzs := (Sw.of_owns (d := 0) hown (zerosI_len n)).sl
  simp only [World.size_alloc] at hzs
  clear hown hgrow hcell hw1
  refine (HT.out _ w2 hB12 hzs).mono ?_
  rintro e w3 ⟨rr, rfl, hsw, hb3⟩
  have HB3 := Lib.hid (hB12.trans (hb3.mono hB12.size))
  have k3 := cell_keep HB3.out k3w1
  have hsz3 := HB3.out.size
  have hn0 : w.heap.size < w3.heap.size := by omega
  have HB4 := Lib.hid (HB3.out.alloc HB3.out.size (.cells #[.int .i64 (n : Int)] 3))
  have k4 : (w3.alloc (.cells #[.int .i64 (n : Int)] 3)).cell? ⟨w.heap.size, 0, none⟩ = some (.slice p2 M.length cap2) := by rw [World.cell?_alloc_past _ _ _ hn0]; exact k3
  have k8 : (w3.alloc (.cells #[.int .i64 (n : Int)] 3)).cell? ⟨w3.heap.size, 0, none⟩ = some (.int .i64 (n : Int)) := World.cell?_alloc_at _ _ _ _ rfl
  clear hsw hzs hb3 hB12 HT
  have HM4 := Lib.hid (HM.out _ HB4.out)
  go_wp2_with fail
  refine (HM4.out).mono ?_
  rintro e w5 ⟨rfl, hb5⟩
  have HB5 := Lib.hid (HB4.out.trans (hb5.mono HB4.out.size))
  clear hb5
  go_wp2_with fail
  go_ret2
  exact ⟨_, rfl, Sw.nil _ _ _ _ _ _ _, HB1.out.trans (HB5.out.mono (by omega))⟩
/-- where there are pairs, and which -/
noncomputable def resO (s M : List Int) : Option (List Nat) := if ok_TieOrder s (zerosI s.length) = true ∧ s.length % 2 = 0 ∧ metB s.length M = true then pairT s.length M s.length (tieL s (zerosI s.length) s.length) [] else none
noncomputable def ok_SwissPairs (s M : List Int) : Bool := (resO s M).isSome
noncomputable def res_SwissPairs (s M : List Int) : List Int := rowI ((resO s M).getD [])
theorem ok_tie_n {s : List Int} {n : Nat} (hn : s.length = n) (h : ok_TieOrder s (zerosI n) = true) : 2 ≤ n ∧ n ≤ 16 ∧ allB 0 1000 s = true := by
  unfold ok_TieOrder at h
  simp only [Bool.and_eq_true] at h
  have := rB_of h.1
  exact ⟨by omega, by omega, h.2.2.1⟩
theorem tieL_ord (s o : List Int) (n : Nat) : Ord s o n (tieL s o n) := by
  obtain ⟨l, hl⟩ := ord_some s o n
  rw [tieL_eq hl]; exact hl
theorem impl_SwissPairs (s : List Int) (vs : Value) (M : List Int) (vM : Value) (w : World) (hn1 : s.length ≤ 1048576) (hs : Sl (Value.int .i64) 0 w vs s) (hn2 : M.length ≤ 1048576) (hM : Sl (Value.int .i64) 0 w vM M) :
    Calls Try.prog 13 #[vs, vM] w fun e w' => ∃ r, e = .returned (.tuple #[r, .bool (ok_SwissPairs s M)]) ∧ Sw (Value.int .i64) 0 w' r (res_SwissPairs s M) w.heap.size w'.heap.size ∧ Below w.heap.size w w' := by
  unfold ok_SwissPairs res_SwissPairs resO
  by_cases h1 : ok_TieOrder s (zerosI s.length) = true
  · obtain ⟨a2, a16, ga⟩ := ok_tie_n rfl h1
    by_cases h2 : s.length % 2 = 0
    · by_cases h3 : metB s.length M = true
      · rw [if_pos ⟨h1, h2, h3⟩]
        exact swiss_good s M vs vM s.length w hs hM rfl a2 a16 h2 ga (metB_at h3) _ (tieL_ord s _ _) _ rfl
      · rw [if_neg (fun h => h3 h.2.2)]
        exact swiss_bad3 s M vs vM s.length w hn1 hn2 hs hM rfl h1 h2 a16 (fun h => h3 (metB_yes h))
    · rw [if_neg (fun h => h2 h.2.1)]
      exact swiss_bad2 s M vs vM s.length w hn1 hn2 hs hM rfl h1 (by omega)
  · rw [if_neg (fun h => h1 h.1)]
    exact swiss_bad1 s M vs vM s.length w hn1 hn2 hs hM rfl (by simpa using h1)
end Go.Proofs.Ytfipcpbibmhjoab
