/- Contracts: kinds of hands counted, the model. -/
import Derived.Test.YtlfccipkjgcodaaIf
import Derived.Deep.RegionLaw
import Derived.Deep.RegionLawGrows
set_option linter.unusedVariables false
namespace Go.Proofs.Ytlfccipkjgcodaa
open Go.RowKit


def wayS (r s : Nat) : List Int := [
  ((choC s 2 : Nat) : Int), ((choC s 3 : Nat) : Int), ((choC s 4 : Nat) : Int), ((choC r 5 : Nat) : Int), ((choC r 2 : Nat) : Int), ((choC (r - 1) 2 : Nat) : Int), ((choC (r - 1) 3 : Nat) : Int), ((pwN s 5 : Nat) : Int), ((choC (r * s) 5 : Nat) : Int),
  (rowsI r * (s : Int)),
  ((r : Int) * ((choC s 4 : Nat) : Int)), ((r : Int) * ((choC s 4 : Nat) : Int) * ((r : Int) - 1)), ((r : Int) * ((choC s 4 : Nat) : Int) * ((r : Int) - 1) * (s : Int)),
  ((r : Int) * ((choC s 3 : Nat) : Int)), ((r : Int) * ((choC s 3 : Nat) : Int) * ((r : Int) - 1)), ((r : Int) * ((choC s 3 : Nat) : Int) * ((r : Int) - 1) * ((choC s 2 : Nat) : Int)),
  (((choC r 5 : Nat) : Int) * (s : Int)), (((choC r 5 : Nat) : Int) * (s : Int) - rowsI r * (s : Int)),
  (rowsI r * ((pwN s 5 : Nat) : Int)), (rowsI r * ((pwN s 5 : Nat) : Int) - rowsI r * (s : Int)),
  ((r : Int) * ((choC s 3 : Nat) : Int) * ((choC (r - 1) 2 : Nat) : Int)), ((r : Int) * ((choC s 3 : Nat) : Int) * ((choC (r - 1) 2 : Nat) : Int) * (s : Int)), ((r : Int) * ((choC s 3 : Nat) : Int) * ((choC (r - 1) 2 : Nat) : Int) * (s : Int) * (s : Int)),
  (((choC r 2 : Nat) : Int) * ((choC s 2 : Nat) : Int)), (((choC r 2 : Nat) : Int) * ((choC s 2 : Nat) : Int) * ((choC s 2 : Nat) : Int)), (((choC r 2 : Nat) : Int) * ((choC s 2 : Nat) : Int) * ((choC s 2 : Nat) : Int) * ((r : Int) - 2)), (((choC r 2 : Nat) : Int) * ((choC s 2 : Nat) : Int) * ((choC s 2 : Nat) : Int) * ((r : Int) - 2) * (s : Int)),
  ((r : Int) * ((choC s 2 : Nat) : Int)), ((r : Int) * ((choC s 2 : Nat) : Int) * ((choC (r - 1) 3 : Nat) : Int)), ((r : Int) * ((choC s 2 : Nat) : Int) * ((choC (r - 1) 3 : Nat) : Int) * (s : Int)), ((r : Int) * ((choC s 2 : Nat) : Int) * ((choC (r - 1) 3 : Nat) : Int) * (s : Int) * (s : Int)), ((r : Int) * ((choC s 2 : Nat) : Int) * ((choC (r - 1) 3 : Nat) : Int) * (s : Int) * (s : Int) * (s : Int)),
  ((r : Int) * (s : Int))]
theorem kc_wayS : ∀ r, r < 14 → ∀ s, s < 5 → 5 ≤ r → 1 ≤ s → (decide (1 ≤ rowsI r) && decide (rowsI r ≤ 10) && (wayS r s).all fun x => decide (0 ≤ x) && decide (x ≤ 100000000)) = true := by decide +kernel
theorem own_new (l : List Int) (w : World) (t : TypeId) (hl : l.length ≤ maxLen) : World.ownsRow (w.alloc (.cells (l.map (Value.int .i64)).toArray t)) w.heap.size t 1 (.slice (some ⟨w.heap.size, 0, none⟩) l.length l.length) l.length (l.map (Value.int .i64)) := by
  have hg : (w.alloc (.cells (l.map (Value.int .i64)).toArray t)).heap[w.heap.size]? = some (.cells (l.map (Value.int .i64)).toArray t (0, 0)) := by
    show (w.heap.push _)[w.heap.size]? = _
    simp
  exact ⟨by simp, .inr ⟨w.heap.size, l.length, _, rfl, Nat.le_refl _, hg, Nat.le_refl _, hl, by simp, by simp; exact List.take_of_length_le (by simp)⟩⟩
def ninth (l : List Int) (k : Nat) : List Int := l.set 0 (takenI l k)
theorem ninth_len (l : List Int) (k : Nat) : (ninth l k).length = l.length := by simp [ninth]
theorem ninth_zero (l : List Int) (h : 0 < l.length) : ninth l 0 = l := by
  unfold ninth takenI
  cases l with
  | nil => simp at h
  | cons a r => rfl
theorem ninth_at0 (l : List Int) (k : Nat) (h : 0 < l.length) : (ninth l k).getD 0 0 = takenI l k := by
  unfold ninth
  cases l with
  | nil => simp at h
  | cons a r => rfl
theorem ninth_at (l : List Int) (k j : Nat) : (ninth l k).getD (j + 1) 0 = l.getD (j + 1) 0 := by
  unfold ninth
  cases l with
  | nil => rfl
  | cons a r => rfl
theorem ninth_set (l : List Int) (k : Nat) : (ninth l k).set 0 (takenI l (k + 1)) = ninth l (k + 1) := by
  unfold ninth; rw [List.set_set]
theorem map_getD {l : List Int} {k : Nat} (h : k < l.length) : (l.map (Value.int .i64))[k]? = some (.int .i64 (l.getD k 0)) := by
  rw [List.getElem?_map, List.getElem?_eq_getElem h]; simp [List.getD, h]

set_option maxRecDepth 100000 in
set_option maxHeartbeats 4000000 in
theorem kc_spec_yes (r s : Nat) (w : World) (r5 : 5 ≤ r) (r13 : r ≤ 13) (s1 : 1 ≤ s) (s4 : s ≤ 4) :
    Calls Try.prog 26 #[.int .i64 (r : Int), .int .i64 (s : Int)] w fun e w' => ∃ v, e = .returned (.tuple #[v, .bool true]) ∧ Sw (Value.int .i64) 0 w' v (kcI r s) w.heap.size w'.heap.size ∧ Below w.heap.size w w' := by
  have hway := kc_wayS r (by omega) s (by omega) r5 s1
  have hbd := kc_bd r (by omega) s (by omega) r5 s1
  have Heq := Lib.hid (kc_eq r (by omega) s (by omega) r5 s1)
  have Hbd : Hid (∀ k, k < 9 → (0 ≤ (kcS r s).getD k 0 ∧ (kcS r s).getD k 0 ≤ 2598960) ∧ 0 ≤ takenI (kcS r s) k ∧ takenI (kcS r s) k ≤ 2598960) := Lib.hid (fun k hk => by
    have := List.all_eq_true.1 hbd k (List.mem_range.2 hk)
    simp only [Bool.and_eq_true, decide_eq_true_eq] at this
    exact ⟨⟨this.1.1.1, this.1.1.2⟩, this.1.2, this.2⟩)
  clear hbd
  have Hc := Lib.hid (fun n k (z : World) (h1 : n < 53) (h2 : k < 6) => choose3_any n k z h1 h2)
  have hr1 : (r : Int) - 1 = ((r - 1 : Nat) : Int) := by omega
  have Hr1 := Lib.hid hr1
  have hrs : (r : Int) * (s : Int) = ((r * s : Nat) : Int) := (Int.natCast_mul r s).symm
  have Hrs := Lib.hid hrs
  have hrs2 : r * s ≤ 13 * 4 := Nat.mul_le_mul r13 s4
  have H1 := Lib.hid (in_yes (r : Int) 5 13 w (by omega) (by omega))
  have H2 := Lib.hid (in_yes (s : Int) 1 4 w (by omega) (by omega))
  have hmk : ∀ w : World, (Instr.makeSlice 25 (.int .i64 9) (.int .i64 9)).run Try.prog w = .ok (.slice (some ⟨w.heap.size, 0, none⟩) 9 9) (w.alloc (.cells #[.int .i64 0, .int .i64 0, .int .i64 0, .int .i64 0, .int .i64 0, .int .i64 0, .int .i64 0, .int .i64 0, .int .i64 0] 2)) := fun _ => by kernel_rfl
  have C2 := Lib.hid (fun z => Hc.out s 2 z (by omega) (by omega))
  have C3 := Lib.hid (fun z => Hc.out s 3 z (by omega) (by omega))
  have C4 := Lib.hid (fun z => Hc.out s 4 z (by omega) (by omega))
  have D5 := Lib.hid (fun z => Hc.out r 5 z (by omega) (by omega))
  have D2 := Lib.hid (fun z => Hc.out r 2 z (by omega) (by omega))
  have E2 := Lib.hid (fun z => Hc.out (r - 1) 2 z (by omega) (by omega))
  have E3 := Lib.hid (fun z => Hc.out (r - 1) 3 z (by omega) (by omega))
  have RS := Lib.hid (fun z => Hc.out (r * s) 5 z (by omega) (by omega))
  have PW := Lib.hid (fun z => power_any s 5 z (by omega) (by omega))
  rw [← Hr1.out] at E2 E3
  rw [← Hrs.out] at RS
  simp only [wayS, List.all_cons, List.all_nil, Bool.and_true, Bool.and_eq_true, decide_eq_true_eq] at hway
  have HL : Hid (∀ x0 x1 x2 x3 x4 x5 x6 x7 x8 : Int, [x0, x1, x2, x3, x4, x5, x6, x7, x8] = kcS r s → ∀ z : World, World.ownsRow (z.alloc (.cells #[.int .i64 x0, .int .i64 x1, .int .i64 x2, .int .i64 x3, .int .i64 x4, .int .i64 x5, .int .i64 x6, .int .i64 x7, .int .i64 x8] 2)) z.heap.size 2 1 (.slice (some ⟨z.heap.size, 0, none⟩) 9 9) 9 ((kcS r s).map (Value.int .i64))) := Lib.hid (fun x0 x1 x2 x3 x4 x5 x6 x7 x8 e z => by
    rw [← e]; exact own_new [x0, x1, x2, x3, x4, x5, x6, x7, x8] z _ (by unfold maxLen; simp))
  have HKS : Hid (kcS r s = _) := Lib.hid (by unfold kcS; rfl)
  clear hr1 hrs
  obtain ⟨⟨b1, b2⟩, ⟨c0, d0⟩, ⟨c1, d1⟩, ⟨c2, d2⟩, ⟨c3, d3⟩, ⟨c4, d4⟩, ⟨c5, d5⟩, ⟨c6, d6⟩, ⟨c7, d7⟩, ⟨c8, d8⟩, ⟨c9, d9⟩, ⟨c10, d10⟩, ⟨c11, d11⟩, ⟨c12, d12⟩, ⟨c13, d13⟩, ⟨c14, d14⟩, ⟨c15, d15⟩, ⟨c16, d16⟩, ⟨c17, d17⟩, ⟨c18, d18⟩, ⟨c19, d19⟩, ⟨c20, d20⟩, ⟨c21, d21⟩, ⟨c22, d22⟩, ⟨c23, d23⟩, ⟨c24, d24⟩, ⟨c25, d25⟩, ⟨c26, d26⟩, ⟨c27, d27⟩, ⟨c28, d28⟩, ⟨c29, d29⟩, ⟨c30, d30⟩, ⟨c31, d31⟩, c32, d32⟩ := hway
  generalize ((choC s 2 : Nat) : Int) = S2 at *
  generalize ((choC s 3 : Nat) : Int) = S3 at *
  generalize ((choC s 4 : Nat) : Int) = S4 at *
  generalize ((choC r 5 : Nat) : Int) = R5 at *
  generalize ((choC r 2 : Nat) : Int) = R2 at *
  generalize ((choC (r - 1) 2 : Nat) : Int) = Q2 at *
  generalize ((choC (r - 1) 3 : Nat) : Int) = Q3 at *
  generalize ((pwN s 5 : Nat) : Int) = P5 at *
  generalize ((choC (r * s) 5 : Nat) : Int) = T5 at *
  by_cases e5 : r = 5
  · have er : rowsI r = 1 := by unfold rowsI; rw [if_pos e5]
    have ne : ((r : Int) == 5) = true := by rw [beq_iff_eq]; omega
    have ne' : ((r : Int) = 5) = True := eq_true (by omega)
    clear e5
    generalize rowsI r = rho at *
    subst er
    simp only [Int.one_mul] at *
    go_enter Try.func26, Try.ntmps26
    go_wp2_with fail
    refine H1.out.mono ?_
    rintro e w' ⟨rfl, rfl⟩
    go_wp2_with fail
    refine H2.out.mono ?_
    rintro e w' ⟨rfl, rfl⟩
    go_wp2_with fail
    refine (C4.out _).mono ?_
    rintro e w' ⟨rfl, rfl⟩
    go_wp2_with fail
    refine (C3.out _).mono ?_
    rintro e w' ⟨rfl, rfl⟩
    go_wp2_with fail
    refine (C2.out _).mono ?_
    rintro e w' ⟨rfl, rfl⟩
    go_wp2
    go_region_law (go_simp; go_at_call 57; refine (D5.out _).mono ?_; rintro e w' ⟨rfl, rfl⟩)
    go_wp2
    all_goals
      go_region_law (go_simp; go_at_call 58; refine (PW.out _).mono ?_; rintro e w' ⟨rfl, rfl⟩)
    all_goals
      go_wp2_with fail
      refine (C3.out _).mono ?_
      rintro e w' ⟨rfl, rfl⟩
      go_wp2_with fail
      refine (E2.out _).mono ?_
      rintro e w' ⟨rfl, rfl⟩
      go_wp2_with fail
      refine (D2.out _).mono ?_
      rintro e w' ⟨rfl, rfl⟩
      go_wp2_with fail
      refine (C2.out _).mono ?_
      rintro e w' ⟨rfl, rfl⟩
      go_wp2_with fail
      refine (C2.out _).mono ?_
      rintro e w' ⟨rfl, rfl⟩
      go_wp2_with fail
      refine (C2.out _).mono ?_
      rintro e w' ⟨rfl, rfl⟩
      go_wp2_with fail
      refine (E3.out _).mono ?_
      rintro e w' ⟨rfl, rfl⟩
      go_wp2_with fail
      refine (RS.out _).mono ?_
      rintro e w' ⟨rfl, rfl⟩
      go_wp2
      have HO := Lib.hid (HL.out _ _ _ _ _ _ _ _ _ HKS.out.symm w)
      go_loopw [10] (fun i wr => ∃ k : Nat, k ≤ 8 ∧ i = .int .i64 ((k : Int) + 1) ∧ wr.ownsRow w.heap.size 2 1 (.slice (some ⟨w.heap.size, 0, none⟩) 9 9) 9 ((ninth (kcS r s) k).map (Value.int .i64)) ∧ Below w.heap.size w wr) (fun i _ => 10 - (intOf i).toNat)
      case atStart => exact ⟨0, by omega, rfl, by rw [ninth_zero _ (by show 0 < 9; omega)]; exact HO.out, (((Below.refl _ _).alloc (Nat.le_refl _) _).drew).drew⟩
      case round =>
        obtain ⟨k, hk, rfl, hown, hb⟩ := hrel
        clear HO
        by_cases hlt : k < 8
        · obtain ⟨⟨-, -⟩, p0, p1⟩ := Hbd.out k (by omega)
          obtain ⟨⟨q0, q1⟩, v0, v1⟩ := Hbd.out (k + 1) (by omega)
          have c0 : wr.cell? ⟨w.heap.size, 0, none⟩ = some (.int .i64 (takenI (kcS r s) k)) := by
            rw [hown.cellAt 0 (by omega), map_getD (by rw [ninth_len]; show 0 < 9; omega), ninth_at0 _ _ (by show 0 < 9; omega)]
          have c1 : wr.cell? ⟨w.heap.size, k + 1, none⟩ = some (.int .i64 ((kcS r s).getD (k + 1) 0)) := by
            rw [hown.cellAt (k + 1) (by omega), map_getD (by rw [ninth_len]; show k + 1 < 9; omega), ninth_at]
          have f0 := hown.frozenAt 0
          obtain ⟨hs1, _⟩ := hown.stored 0 (.int .i64 (takenI (kcS r s) (k + 1)))
          rw [← List.map_set, ninth_set] at hs1
          have hz : w.heap.size ≤ w.heap.size := Nat.le_refl _
          have hb2 := hb.setCell (p := ⟨w.heap.size, 0, none⟩) hz (.int .i64 (takenI (kcS r s) (k + 1)))
          rw [show takenI (kcS r s) (k + 1) = takenI (kcS r s) k - (kcS r s).getD (k + 1) 0 from rfl] at hs1 hb2 v0 v1
          have Hs1 := Lib.hid hs1
          have Hb2 := Lib.hid hb2
          clear hs1 hb2 hown hb hz
          generalize takenI (kcS r s) k = A at *
          generalize (kcS r s).getD (k + 1) 0 = B at *
          go_wp2
          go_region
          all_goals
            go_wp2
            go_roundw
            case rel => exact ⟨k + 1, by omega, by go_num, Hs1.out, Hb2.out.drew⟩
            case measure => simp [intOf]; omega
        · obtain rfl : k = 8 := by omega
          have Hown := Lib.hid hown
          have Hb := Lib.hid hb
          clear hown hb
          go_wp2
          go_ret2
          exact ⟨_, rfl, by rw [← Heq.out]; exact Sw.of_owns Hown.out (by rw [List.length_set]; rfl), Hb.out⟩
  · have er : rowsI r = (r : Int) - 3 := by unfold rowsI; rw [if_neg e5]
    have ne : ((r : Int) == 5) = false := by rw [Bool.eq_false_iff]; intro e; rw [beq_iff_eq] at e; omega
    have ne' : ((r : Int) = 5) = False := eq_false (by omega)
    clear e5
    generalize rowsI r = rho at *
    subst er
    go_enter Try.func26, Try.ntmps26
    go_wp2_with fail
    refine H1.out.mono ?_
    rintro e w' ⟨rfl, rfl⟩
    go_wp2_with fail
    refine H2.out.mono ?_
    rintro e w' ⟨rfl, rfl⟩
    go_wp2_with fail
    refine (C4.out _).mono ?_
    rintro e w' ⟨rfl, rfl⟩
    go_wp2_with fail
    refine (C3.out _).mono ?_
    rintro e w' ⟨rfl, rfl⟩
    go_wp2_with fail
    refine (C2.out _).mono ?_
    rintro e w' ⟨rfl, rfl⟩
    go_wp2
    go_region_law (go_simp; go_at_call 57; refine (D5.out _).mono ?_; rintro e w' ⟨rfl, rfl⟩)
    go_wp2
    all_goals
      go_region_law (go_simp; go_at_call 58; refine (PW.out _).mono ?_; rintro e w' ⟨rfl, rfl⟩)
    all_goals
      go_wp2_with fail
      refine (C3.out _).mono ?_
      rintro e w' ⟨rfl, rfl⟩
      go_wp2_with fail
      refine (E2.out _).mono ?_
      rintro e w' ⟨rfl, rfl⟩
      go_wp2_with fail
      refine (D2.out _).mono ?_
      rintro e w' ⟨rfl, rfl⟩
      go_wp2_with fail
      refine (C2.out _).mono ?_
      rintro e w' ⟨rfl, rfl⟩
      go_wp2_with fail
      refine (C2.out _).mono ?_
      rintro e w' ⟨rfl, rfl⟩
      go_wp2_with fail
      refine (C2.out _).mono ?_
      rintro e w' ⟨rfl, rfl⟩
      go_wp2_with fail
      refine (E3.out _).mono ?_
      rintro e w' ⟨rfl, rfl⟩
      go_wp2_with fail
      refine (RS.out _).mono ?_
      rintro e w' ⟨rfl, rfl⟩
      go_wp2
      have HO := Lib.hid (HL.out _ _ _ _ _ _ _ _ _ HKS.out.symm w)
      go_loopw [10] (fun i wr => ∃ k : Nat, k ≤ 8 ∧ i = .int .i64 ((k : Int) + 1) ∧ wr.ownsRow w.heap.size 2 1 (.slice (some ⟨w.heap.size, 0, none⟩) 9 9) 9 ((ninth (kcS r s) k).map (Value.int .i64)) ∧ Below w.heap.size w wr) (fun i _ => 10 - (intOf i).toNat)
      case atStart => exact ⟨0, by omega, rfl, by rw [ninth_zero _ (by show 0 < 9; omega)]; exact HO.out, (((Below.refl _ _).alloc (Nat.le_refl _) _).drew).drew⟩
      case round =>
        obtain ⟨k, hk, rfl, hown, hb⟩ := hrel
        clear HO
        by_cases hlt : k < 8
        · obtain ⟨⟨-, -⟩, p0, p1⟩ := Hbd.out k (by omega)
          obtain ⟨⟨q0, q1⟩, v0, v1⟩ := Hbd.out (k + 1) (by omega)
          have c0 : wr.cell? ⟨w.heap.size, 0, none⟩ = some (.int .i64 (takenI (kcS r s) k)) := by
            rw [hown.cellAt 0 (by omega), map_getD (by rw [ninth_len]; show 0 < 9; omega), ninth_at0 _ _ (by show 0 < 9; omega)]
          have c1 : wr.cell? ⟨w.heap.size, k + 1, none⟩ = some (.int .i64 ((kcS r s).getD (k + 1) 0)) := by
            rw [hown.cellAt (k + 1) (by omega), map_getD (by rw [ninth_len]; show k + 1 < 9; omega), ninth_at]
          have f0 := hown.frozenAt 0
          obtain ⟨hs1, _⟩ := hown.stored 0 (.int .i64 (takenI (kcS r s) (k + 1)))
          rw [← List.map_set, ninth_set] at hs1
          have hz : w.heap.size ≤ w.heap.size := Nat.le_refl _
          have hb2 := hb.setCell (p := ⟨w.heap.size, 0, none⟩) hz (.int .i64 (takenI (kcS r s) (k + 1)))
          rw [show takenI (kcS r s) (k + 1) = takenI (kcS r s) k - (kcS r s).getD (k + 1) 0 from rfl] at hs1 hb2 v0 v1
          have Hs1 := Lib.hid hs1
          have Hb2 := Lib.hid hb2
          clear hs1 hb2 hown hb hz
          generalize takenI (kcS r s) k = A at *
          generalize (kcS r s).getD (k + 1) 0 = B at *
          go_wp2
          go_region
          all_goals
            go_wp2
            go_roundw
            case rel => exact ⟨k + 1, by omega, by go_num, Hs1.out, Hb2.out.drew⟩
            case measure => simp [intOf]; omega
        · obtain rfl : k = 8 := by omega
          have Hown := Lib.hid hown
          have Hb := Lib.hid hb
          clear hown hb
          go_wp2
          go_ret2
          exact ⟨_, rfl, by rw [← Heq.out]; exact Sw.of_owns Hown.out (by rw [List.length_set]; rfl), Hb.out⟩
end Go.Proofs.Ytlfccipkjgcodaa
