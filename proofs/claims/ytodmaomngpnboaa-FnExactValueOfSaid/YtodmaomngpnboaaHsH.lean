/- Contracts: kinds and values of five cards, the program. -/
import Derived.Test.YtodmaomngpnboaaHsG
import Derived.Test.YtodmaomngpnboaaIh
set_option linter.unusedVariables false
namespace Go.Proofs.Ytodmaomngpnboaa
open Go.RowKit

def csF (fs : List Int) : List Nat := fs.map Int.toNat
def CF (fs : List Int) : List Nat := cntL ((csF fs).map (· % 13))
def oneF (fs : List Int) : Bool := sameK (csF fs) 5
def ok_KindOf (fs : List Int) : Bool := handB 5 5 fs
def res_KindOf (fs : List Int) : Int := if handB 5 5 fs = true then ((kindC (CF fs) (oneF fs) : Nat) : Int) else 0
def ok_ValueOf (fs : List Int) : Bool := handB 5 5 fs
def res_ValueOf (fs : List Int) : Int := if handB 5 5 fs = true then ((pvV (kindC (CF fs) (oneF fs)) (digC (CF fs)) 5 : Nat) : Int) else 0
theorem cards_nat {fs : List Int} (h : handB 5 5 fs = true) : fs = ntI (csF fs) ∧ (csF fs).length = 5 ∧ (∀ c ∈ csF fs, c ≤ 51) ∧ (csF fs).Nodup := by
  obtain ⟨h1, h2, h3⟩ := handB_yes h
  have hb := fun k hk => handAt_bd (cardsB_at h3 k hk)
  have hm : ∀ x ∈ fs, 0 ≤ x ∧ x ≤ 51 := fun x hx => by
    obtain ⟨k, hk, rfl⟩ := List.getElem_of_mem hx
    have := hb k hk
    rw [getD_lt _ _ _ hk] at this
    exact ⟨this.1, this.2.1⟩
  refine ⟨?_, by unfold csF; rw [List.length_map]; omega, ?_, ?_⟩
  · unfold ntI csF
    rw [List.map_map]
    conv => lhs; rw [← List.map_id fs]
    refine List.map_congr_left fun x hx => ?_
    show x = ((x.toNat : Nat) : Int)
    have := hm x hx
    omega
  · intro c hc
    obtain ⟨x, hx, rfl⟩ := List.mem_map.1 hc
    have := hm x hx
    omega
  · unfold csF List.Nodup
    rw [List.pairwise_map, List.pairwise_iff_getElem]
    intro i j hi hj hij e
    have hbj := (hb j hj).2.2
    rw [Bool.eq_false_iff] at hbj
    refine hbj ?_
    rw [List.contains_iff_mem, getD_lt _ _ _ hj]
    have x1 := hm _ (List.getElem_mem hi)
    have x2 := hm _ (List.getElem_mem hj)
    have e2 : fs[j] = fs[i] := by omega
    rw [e2, List.mem_take_iff_getElem]
    exact ⟨i, by omega, rfl⟩
theorem rank4 {cs : List Nat} (hn : cs.Nodup) (h : ∀ c ∈ cs, c ≤ 51) (x : Nat) : (cs.map (· % 13)).count x ≤ 4 := by
  have e : (cs.map (· % 13)).count x = (cs.filter (fun c => c % 13 == x)).length := by
    rw [List.count, List.countP_map, List.countP_eq_length_filter]; rfl
  rw [e]
  refine List.Nodup.length_le_of_subset (l₂ := [x, x + 13, x + 26, x + 39]) (show (cs.filter (fun c => c % 13 == x)).Nodup from hn.filter _) fun c hc => ?_
  obtain ⟨h1, h2⟩ := List.mem_filter.1 hc
  have h3 := h c h1
  rw [beq_iff_eq] at h2
  simp only [List.mem_cons, List.not_mem_nil, or_false]
  omega
theorem rowI_eq (C : List Nat) (s0 s1 s2 s3 s4 : Nat) : rowI C [s0, s1, s2, s3, s4] = rowV s0 s1 s2 s3 s4 (cAt C s0) := by
  unfold rowI rowV lowS
  by_cases e : [s0, s1, s2, s3, s4] = [12, 3, 2, 1, 0]
  · rw [if_pos e, decide_eq_true e, if_pos rfl]
  · rw [if_neg e, decide_eq_false e, if_neg Bool.false_ne_true]; rfl
theorem kindI_eq (C : List Nat) (s0 s1 s2 s3 s4 : Nat) (one : Bool) : kindI C [s0, s1, s2, s3, s4] one = kindV (rowV s0 s1 s2 s3 s4 (cAt C s0)).2 one (cAt C s0) (cAt C ([s0, s1, s2, s3, s4].getD (cAt C s0) 0)) := by
  rw [← rowI_eq]; rfl
theorem cAt_le {C : List Nat} (h : ∀ x ∈ C, x ≤ 4) (r : Nat) : cAt C r ≤ 5 := by
  unfold cAt
  rcases Nat.lt_or_ge (12 - r) C.length with hl | hl
  · rw [getD_lt _ _ _ hl]; exact Nat.le_succ_of_le (h _ (List.getElem_mem _))
  · rw [List.getD, List.getElem?_eq_none hl]; exact Nat.zero_le _
theorem five_facts {fs : List Int} (h : handB 5 5 fs = true) : ∃ s0 s1 s2 s3 s4 : Nat, ordC (CF fs) 4 = [s0, s1, s2, s3, s4] ∧ s0 ≤ 12 ∧ s1 ≤ 12 ∧ s2 ≤ 12 ∧ s3 ≤ 12 ∧ s4 ≤ 12 ∧ cAt (CF fs) s0 ≤ 5 ∧ cAt (CF fs) ([s0, s1, s2, s3, s4].getD (cAt (CF fs) s0) 0) ≤ 5 ∧
    kindV (rowV s0 s1 s2 s3 s4 (cAt (CF fs) s0)).2 (oneF fs) (cAt (CF fs) s0) (cAt (CF fs) ([s0, s1, s2, s3, s4].getD (cAt (CF fs) s0) 0)) = kindC (CF fs) (oneF fs) ∧
    (if (rowV s0 s1 s2 s3 s4 (cAt (CF fs) s0)).2 = true then [(rowV s0 s1 s2 s3 s4 (cAt (CF fs) s0)).1, 0, 0, 0, 0] else [s0, s1, s2, s3, s4]) = digC (CF fs) ∧
    shV [s0, s1, s2, s3, s4] (CF fs) (oneF fs) = .agg #[.int .i64 (s0 : Int), .int .i64 (s1 : Int), .int .i64 (s2 : Int), .int .i64 (s3 : Int), .int .i64 (s4 : Int), .int .i64 (cAt (CF fs) s0 : Nat), .int .i64 (cAt (CF fs) ([s0, s1, s2, s3, s4].getD (cAt (CF fs) s0) 0) : Nat), .bool (oneF fs)] := by
  obtain ⟨n1, n2, n3, n4⟩ := cards_nat h
  have hR13 : ∀ x ∈ (csF fs).map (· % 13), x < 13 := by
    intro x hx
    obtain ⟨c, _, rfl⟩ := List.mem_map.1 hx
    exact Nat.mod_lt _ (by omega)
  have hok : okC (CF fs) = true := okC_of ((csF fs).map (· % 13)) hR13 (by rw [List.length_map, n2]) (rank4 n4 n3)
  have hle := cAt_le (cntL_le ((csF fs).map (· % 13)) (rank4 n4 n3))
  unfold okC at hok
  simp only [Bool.and_eq_true, beq_iff_eq, decide_eq_true_eq, List.all_eq_true] at hok
  obtain ⟨⟨⟨⟨⟨⟨⟨⟨k5, -⟩, -⟩, kt⟩, kf⟩, kd⟩, k12⟩, -⟩, -⟩ := hok
  obtain ⟨s0, s1, s2, s3, s4, eS⟩ := five_of k5
  rw [eS] at k12 kt kf kd
  refine ⟨s0, s1, s2, s3, s4, eS, k12 _ (by simp), k12 _ (by simp), k12 _ (by simp), k12 _ (by simp), k12 _ (by simp), hle _, hle _, ?_, ?_, rfl⟩
  · rw [← kindI_eq]
    cases oneF fs
    · exact kf
    · exact kt
  · rw [← rowI_eq]; exact kd
set_option maxHeartbeats 2000000 in
theorem impl_KindOf (fs : List Int) (v : Value) (w : World) (hn : fs.length ≤ 1048576) (h : Sl (Value.int .i64) 0 w v fs) :
    Calls Try.prog 56 #[v] w fun e w' => e = .returned (.tuple #[.int .i64 (res_KindOf fs), .bool (ok_KindOf fs)]) ∧ Below w.heap.size w w' := by
  have HH := Lib.hid (show Calls Try.prog 96 #[v, .int .i64 5, .int .i64 5] w fun e w' => e = .returned (.bool (handB 5 5 fs)) ∧ Below w.heap.size w w' from handOf_any fs v 5 5 w hn (by omega) (by omega) h)
  unfold res_KindOf ok_KindOf
  cases hB : handB 5 5 fs
  · rw [hB] at HH
    rw [if_neg Bool.false_ne_true]
    clear hB h
    go_enter Try.func56, Try.ntmps56
    go_wp2_with fail
    refine (HH.out).mono ?_
    rintro e w1 ⟨rfl, hb1⟩
    have Hb1 := Lib.hid hb1
    clear hb1
    go_wp2
    go_ret2
    exact ⟨rfl, Hb1.out⟩
  · rw [hB] at HH
    rw [if_pos rfl]
    obtain ⟨n1, n2, n3, n4⟩ := cards_nat hB
    obtain ⟨s0, s1, s2, s3, s4, eS, b0, b1, b2, b3, b4, bm, bq, ek, ed, ev⟩ := five_facts hB
    have hS := Lib.hid (fun z (hz : Sl (Value.int .i64) 0 z v fs) => shape_any (csF fs) v z n2 n3 (rank4 n4 n3) (n1 ▸ hz))
    rw [show cntL ((csF fs).map (· % 13)) = CF fs from rfl, show sameK (csF fs) 5 = oneF fs from rfl, eS, ev] at hS
    rw [← ek]
    clear ek ed
    generalize oneF fs = one at *
    generalize cAt (CF fs) ([s0, s1, s2, s3, s4].getD (cAt (CF fs) s0) 0) = q at *
    generalize cAt (CF fs) s0 = m at *
    have HK := Lib.hid (fun z => kind_any s0 s1 s2 s3 s4 m q one z b0 b4 bm bq)
    generalize kindV (rowV s0 s1 s2 s3 s4 m).2 one m q = PV at *
    have HV := Lib.hid (fun z hz => h.later (w' := z) hz)
    clear hB h n1 n2 n3 n4 eS ev
    go_enter Try.func56, Try.ntmps56
    go_wp2_with fail
    refine (HH.out).mono ?_
    rintro e w1 ⟨rfl, hb1⟩
    have Hb1 := Lib.hid hb1
    clear hb1
    go_wp2_with fail
    refine (hS.out _ (HV.out _ Hb1.out)).mono ?_
    rintro e w2 ⟨rfl, hb2⟩
    have Hb2 := Lib.hid (Hb1.out.trans (hb2.mono Hb1.out.size))
    clear hb2
    go_wp2_with fail
    refine (HK.out _).mono ?_
    rintro e w3 ⟨rfl, hb3⟩
    have Hb3 := Lib.hid (Hb2.out.trans (hb3.mono Hb2.out.size))
    clear hb3
    go_wp2
    go_ret2
    exact ⟨rfl, Hb3.out⟩
set_option maxHeartbeats 2000000 in
theorem impl_ValueOf (fs : List Int) (v : Value) (w : World) (hn : fs.length ≤ 1048576) (h : Sl (Value.int .i64) 0 w v fs) :
    Calls Try.prog 58 #[v] w fun e w' => e = .returned (.tuple #[.int .i64 (res_ValueOf fs), .bool (ok_ValueOf fs)]) ∧ Below w.heap.size w w' := by
  have HH := Lib.hid (show Calls Try.prog 96 #[v, .int .i64 5, .int .i64 5] w fun e w' => e = .returned (.bool (handB 5 5 fs)) ∧ Below w.heap.size w w' from handOf_any fs v 5 5 w hn (by omega) (by omega) h)
  unfold res_ValueOf ok_ValueOf
  cases hB : handB 5 5 fs
  · rw [hB] at HH
    rw [if_neg Bool.false_ne_true]
    clear hB h
    go_enter Try.func58, Try.ntmps58
    go_wp2_with fail
    refine (HH.out).mono ?_
    rintro e w1 ⟨rfl, hb1⟩
    have Hb1 := Lib.hid hb1
    clear hb1
    go_wp2
    go_ret2
    exact ⟨rfl, Hb1.out⟩
  · rw [hB] at HH
    rw [if_pos rfl]
    obtain ⟨n1, n2, n3, n4⟩ := cards_nat hB
    obtain ⟨s0, s1, s2, s3, s4, eS, b0, b1, b2, b3, b4, bm, bq, ek, ed, ev⟩ := five_facts hB
    have hS := Lib.hid (fun z (hz : Sl (Value.int .i64) 0 z v fs) => shape_any (csF fs) v z n2 n3 (rank4 n4 n3) (n1 ▸ hz))
    rw [show cntL ((csF fs).map (· % 13)) = CF fs from rfl, show sameK (csF fs) 5 = oneF fs from rfl, eS, ev] at hS
    rw [← ek, ← ed]
    clear ek ed
    generalize oneF fs = one at *
    generalize cAt (CF fs) ([s0, s1, s2, s3, s4].getD (cAt (CF fs) s0) 0) = q at *
    generalize cAt (CF fs) s0 = m at *
    have HK := Lib.hid (fun z => value_any s0 s1 s2 s3 s4 m q one z b0 b1 b2 b3 b4 bm bq)
    generalize pvV (kindV (rowV s0 s1 s2 s3 s4 m).2 one m q) (if (rowV s0 s1 s2 s3 s4 m).2 = true then [(rowV s0 s1 s2 s3 s4 m).1, 0, 0, 0, 0] else [s0, s1, s2, s3, s4]) 5 = PV at *
    have HV := Lib.hid (fun z hz => h.later (w' := z) hz)
    clear hB h n1 n2 n3 n4 eS ev
    go_enter Try.func58, Try.ntmps58
    go_wp2_with fail
    refine (HH.out).mono ?_
    rintro e w1 ⟨rfl, hb1⟩
    have Hb1 := Lib.hid hb1
    clear hb1
    go_wp2_with fail
    refine (hS.out _ (HV.out _ Hb1.out)).mono ?_
    rintro e w2 ⟨rfl, hb2⟩
    have Hb2 := Lib.hid (Hb1.out.trans (hb2.mono Hb1.out.size))
    clear hb2
    go_wp2_with fail
    refine (HK.out _).mono ?_
    rintro e w3 ⟨rfl, hb3⟩
    have Hb3 := Lib.hid (Hb2.out.trans (hb3.mono Hb2.out.size))
    clear hb3
    go_wp2
    go_ret2
    exact ⟨rfl, Hb3.out⟩
end Go.Proofs.Ytodmaomngpnboaa
