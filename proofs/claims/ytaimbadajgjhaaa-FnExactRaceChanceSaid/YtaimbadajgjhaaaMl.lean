/- Contracts: PoolChance, the program. -/
import Derived.Test.YtaimbadajgjhaaaMk
import Derived.Test.YtaimbadajgjhaaaMc
import Derived.Test.YtaimbadajgjhaaaQb
import Derived.Deep.RegionLawGrows
set_option linter.unusedVariables false
namespace Go.Proofs.Ytaimbadajgjhaaa
open Go.RowKit

theorem pwI_mono5 (x y : Int) (h0 : 0 ≤ x) (h : x ≤ y) (k : Nat) : 0 ≤ pwI x k ∧ pwI x k ≤ pwI y k := by
  induction k with
  | zero => exact ⟨by show (0 : Int) ≤ 1; omega, Int.le_refl _⟩
  | succ k ih => exact ⟨Int.mul_nonneg ih.1 h0, Int.mul_le_mul ih.2 h h0 (Int.le_trans ih.1 ih.2)⟩
theorem pwI_one (x : Int) (h : 1 ≤ x) (k : Nat) : 1 ≤ pwI x k := by
  induction k with
  | zero => exact Int.le_refl _
  | succ k ih =>
    have := Int.mul_le_mul ih h (by omega) (by omega)
    show 1 ≤ pwI x k * x
    omega
theorem pw12_tab : ((List.range 9).all fun D => (List.range (D + 1)).all fun i => decide (pwI 12 i * pwI 12 (D - i) ≤ 429981696) && decide (pwI 12 i ≤ 429981696) && decide (setsR D i ≤ 70) && decide (setsR D (i + 1) ≤ 70) && decide (setsR D i * (D - i) ≤ 560)) = true := by decide +kernel
theorem pw12_at (D i : Nat) (hD : D ≤ 8) (hi : i ≤ D) : pwI 12 i * pwI 12 (D - i) ≤ 429981696 ∧ pwI 12 i ≤ 429981696 ∧ setsR D i ≤ 70 ∧ setsR D i * (D - i) ≤ 560 := by
  have := List.all_eq_true.1 (List.all_eq_true.1 pw12_tab D (List.mem_range.2 (by omega))) i (List.mem_range.2 (by omega))
  simp only [Bool.and_eq_true, decide_eq_true_eq] at this
  exact ⟨this.1.1.1.1, this.1.1.1.2, this.1.1.2, this.2⟩
/-- of so many throws just i are enough, in how many ways -/
def poolT (h c : Int) (D i : Nat) : Int := (setsR D i : Int) * pwI h i * pwI c (D - i)
def poolS (h c : Int) (D need : Nat) : Nat → Int
  | 0 => 0
  | k + 1 => poolS h c D need k + (if need ≤ k then poolT h c D k else 0)
theorem poolT_bd (h c : Int) (D i : Nat) (h0 : 0 ≤ h) (h1 : h ≤ 12) (c0 : 0 ≤ c) (c1 : c ≤ 12) (hD : D ≤ 8) (hi : i ≤ D) :
    (0 ≤ pwI h i ∧ pwI h i ≤ 429981696) ∧ (0 ≤ pwI c (D - i) ∧ pwI c (D - i) ≤ 429981696) ∧ (0 ≤ (setsR D i : Int) * pwI h i ∧ (setsR D i : Int) * pwI h i ≤ 30098718720) ∧ 0 ≤ poolT h c D i ∧ poolT h c D i ≤ 30098718720 := by
  obtain ⟨t1, t2, t3, -⟩ := pw12_at D i hD hi
  obtain ⟨-, t5, -, -⟩ := pw12_at D (D - i) hD (by omega)
  have p1 := pwI_mono5 h 12 h0 h1 i
  have p2 := pwI_mono5 c 12 c0 c1 (D - i)
  have m1 := Int.mul_le_mul p1.2 p2.2 p2.1 (Int.le_trans p1.1 p1.2)
  have m0 := Int.mul_nonneg p1.1 p2.1
  have s0 : 0 ≤ (setsR D i : Int) := by omega
  have s1 : (setsR D i : Int) ≤ 70 := by omega
  have a1 := Int.mul_le_mul s1 (Int.le_trans p1.2 t2) p1.1 (by omega)
  have a2 := Int.mul_le_mul s1 (Int.le_trans m1 t1) m0 (by omega)
  have a3 := Int.mul_nonneg s0 m0
  refine ⟨⟨p1.1, Int.le_trans p1.2 t2⟩, ⟨p2.1, Int.le_trans p2.2 t5⟩, ⟨Int.mul_nonneg s0 p1.1, by omega⟩, ?_⟩
  unfold poolT
  rw [Int.mul_assoc]
  exact ⟨a3, by omega⟩
theorem poolS_bd (h c : Int) (D need : Nat) (h0 : 0 ≤ h) (h1 : h ≤ 12) (c0 : 0 ≤ c) (c1 : c ≤ 12) (hD : D ≤ 8) : ∀ k, k ≤ D + 1 → 0 ≤ poolS h c D need k ∧ poolS h c D need k ≤ (k : Int) * 30098718720
  | 0, _ => by show 0 ≤ (0 : Int) ∧ (0 : Int) ≤ _; omega
  | k + 1, hk => by
    have ih := poolS_bd h c D need h0 h1 c0 c1 hD k (by omega)
    have := (poolT_bd h c D k h0 h1 c0 c1 hD (by omega)).2.2.2
    rw [poolS]
    split <;> omega
theorem poolS_none (h c : Int) (D need : Nat) : ∀ k, k ≤ need → poolS h c D need k = 0
  | 0, _ => rfl
  | k + 1, hk => by rw [poolS, poolS_none h c D need k (by omega), if_neg (by omega)]; rfl
theorem poolS_step (h c : Int) (D need k : Nat) (hk : need ≤ k) : poolS h c D need (k + 1) = poolS h c D need k + poolT h c D k := by rw [poolS, if_pos hk]

def hitN (least : Int) (fs : List Int) : Nat := cntP (fun x => decide (least ≤ x)) fs fs.length
def okPool (a : Int) (fs : List Int) (need : Int) : Bool := ((decide (1 ≤ a) && decide (a ≤ 8)) && dieB fs) && (decide (0 ≤ need) && decide (need ≤ a))
def poolX (a : Int) (fs : List Int) (least need : Int) : Int := poolS ((hitN least fs : Nat) : Int) ((fs.length : Int) - ((hitN least fs : Nat) : Int)) a.toNat need.toNat (a.toNat + 1)
def poolY (a : Int) (fs : List Int) : Int := pwI (fs.length : Int) a.toNat
def ok_PoolChance (a : Int) (fs : List Int) (least need : Int) : Bool := okPool a fs need
def res_PoolChance (a : Int) (fs : List Int) (least need : Int) : Int := if okPool a fs need = true then poolX a fs least need / gcdI (poolX a fs least need) (poolY a fs) else 0
def res2_PoolChance (a : Int) (fs : List Int) (least need : Int) : Int := if okPool a fs need = true then poolY a fs / gcdI (poolX a fs least need) (poolY a fs) else 0
theorem pool_no {a : Int} {fs : List Int} {least need : Int} (h : okPool a fs need = false) : ok_PoolChance a fs least need = false ∧ res_PoolChance a fs least need = 0 ∧ res2_PoolChance a fs least need = 0 := by
  unfold ok_PoolChance res_PoolChance res2_PoolChance
  rw [h]; exact ⟨rfl, rfl, rfl⟩

theorem clo_pool (x least : Int) (B : Nat) (w : World) (c1 : w.cell? ⟨B, 0, none⟩ = some (.int .i64 least)) :
    Calls Try.prog 85 #[.int .i64 x, .pointer (some ⟨B, 0, none⟩)] w fun e w' => e = .returned (.bool (decide (least ≤ x))) ∧ w = w' := by
  go_enter Try.func85, Try.ntmps85
  go_wp2
  go_ret
  exact ⟨rfl, rfl⟩
set_option maxRecDepth 100000 in
set_option maxHeartbeats 4000000 in
theorem impl_PoolChance (a : Int) (al : -9223372036854775808 ≤ a) (au : a ≤ 9223372036854775807) (fs : List Int) (v : Value) (least : Int) (ll : -9223372036854775808 ≤ least) (lu : least ≤ 9223372036854775807) (need : Int) (nl : -9223372036854775808 ≤ need) (nu : need ≤ 9223372036854775807) (w : World) (hn : fs.length ≤ 1048576) (h : Dv w v fs) :
    Calls Try.prog 47 #[.int .i64 a, v, .int .i64 least, .int .i64 need] w fun e w' => e = .returned (.tuple #[.int .i64 (res_PoolChance a fs least need), .int .i64 (res2_PoolChance a fs least need), .bool (ok_PoolChance a fs least need)]) ∧ Below w.heap.size w w' := by
  obtain ⟨s, rfl, h⟩ := h
  have hb0 := ((Below.refl _ w).alloc (Nat.le_refl _) (.cells #[s] 27)).alloc (by simp) (.cells #[.int .i64 least] 2)
  have b2 := (Boxed.new w 27 s).alloc (.cells #[.int .i64 least] 2)
  have b3 := Boxed.new (w.alloc (.cells #[s] 27)) 2 (.int .i64 least)
  simp only [World.size_alloc] at b3
  generalize hW : (w.alloc (.cells #[s] 27)).alloc (.cells #[.int .i64 least] 2) = W at hb0 b3 b2
  have HW := Lib.hid hW
  have Hb0 := Lib.hid hb0
  have Hb3 := Lib.hid b3
  have k2 := b2.cell
  clear hb0 hW b3 b2
  have H1 := Lib.hid (fun z => withinB_any a 1 8 z)
  have H3 := Lib.hid (fun z => withinB_any need 0 a z)
  have Hv := Lib.hid (fun z (hz : Below W.heap.size W z) => valid_impl fs (.agg #[s]) z hn ⟨s, rfl, (h.later Hb0.out).later hz⟩)
  have E : okPool a fs need = (((decide (1 ≤ a) && decide (a ≤ 8)) && dieB fs) && (decide (0 ≤ need) && decide (need ≤ a))) := rfl
  by_cases hA : 1 ≤ a ∧ a ≤ 8
  · rw [decide_eq_true hA.1, decide_eq_true hA.2, Bool.true_and, Bool.true_and] at E
    rw [decide_eq_true hA.1, decide_eq_true hA.2] at H1
    cases hdie : dieB fs
    · rw [hdie] at Hv E
      obtain ⟨e0, e1, e2⟩ := pool_no (least := least) (E.trans (Bool.false_and _))
      rw [e0, e1, e2]
      clear e0 e1 e2 E hdie h
      go_enter Try.func47, Try.ntmps47
      go_wp2_with fail
      rw [HW.out]
      refine (H1.out _).mono ?_
      rintro e w2 ⟨rfl, rfl⟩
      go_wp2_with fail
      refine (Hv.out _ (Below.refl _ _)).mono ?_
      rintro e w2 ⟨rfl, hb⟩
      have Hb := Lib.hid (below_step Hb0.out hb (Nat.le_refl _))
      clear hb
      go_wp2
      go_ret3
      exact ⟨rfl, Hb.out⟩
    · rw [hdie] at Hv E
      obtain ⟨d1, d2, -⟩ := dieB_at hdie
      by_cases hN : 0 ≤ need ∧ need ≤ a
      · rw [decide_eq_true hN.1, decide_eq_true hN.2] at E H3
        unfold ok_PoolChance res_PoolChance res2_PoolChance
        rw [E, if_pos (by rfl), if_pos (by rfl)]
        unfold poolX poolY
        have hh : hitN least fs ≤ fs.length := cntP_le _ _ _
        have Hc := Lib.hid (fun z (hz : Below W.heap.size W z) => countW_any fs s 85 #[] #[.pointer (some ⟨w.heap.size + 1, 0, none⟩)] (fun x => decide (least ≤ x)) z hn ((h.later Hb0.out).later hz)
          (run_enter Try.func85 (by kernel_rfl) (by kernel_rfl))
          (fun k w' hk hd => (clo_pool (fs.getD k 0) least (w.heap.size + 1) w' (box_below (box_below Hb3.out hz Hb3.out.lt) hd (by have := hz.size; have := Hb3.out.lt; omega)).cell).mono fun e w'' ⟨h1, h2⟩ => ⟨h1, by rw [h2]; exact Below.refl _ _⟩))
        rw [show cntP (fun x => decide (least ≤ x)) fs fs.length = hitN least fs from rfl] at Hc
        obtain ⟨p, cap, rfl, -⟩ := h
        generalize hitN least fs = hh' at *
        obtain ⟨D, rfl⟩ : ∃ D : Nat, a = D := ⟨a.toNat, by omega⟩
        obtain ⟨N, rfl⟩ : ∃ N : Nat, need = N := ⟨need.toNat, by omega⟩
        rw [Int.toNat_natCast, Int.toNat_natCast]
        obtain ⟨n, hn1⟩ : ∃ n, n = fs.length := ⟨_, rfl⟩
        rw [← hn1] at d1 d2 hh k2 Hc Hv HW
        rw [← hn1]
        clear hn1 E hdie
        have hD8 : D ≤ 8 := by omega
        have hND : N ≤ D := by omega
        have c0 : 0 ≤ (n : Int) - (hh' : Int) := by omega
        have c12 : (n : Int) - (hh' : Int) ≤ 12 := by omega
        have HT := Lib.hid (fun i (hi : i ≤ D) => poolT_bd (hh' : Int) ((n : Int) - hh') D i (by omega) (by omega) c0 c12 hD8 hi)
        have HS := Lib.hid (fun k (hk : k ≤ D + 1) => poolS_bd (hh' : Int) ((n : Int) - hh') D N (by omega) (by omega) c0 c12 hD8 k hk)
        have Hst := Lib.hid (fun k (hk : N ≤ k) => poolS_step (hh' : Int) ((n : Int) - hh') D N k hk)
        have Hp1 := Lib.hid (fun k z (hk : k ≤ D) => powerQ_any (hh' : Int) k z (by omega) (fun j hj => by have := (HT.out j (by omega)).1; omega))
        have Hp2 := Lib.hid (fun k z (hk : k ≤ D) => powerQ_any ((n : Int) - hh') k z (by omega) (fun j hj => by have := (HT.out (D - j) (by omega)).2.1; rw [show D - (D - j) = j by omega] at this; omega))
        have Hy1 := pwI_one (n : Int) (by omega) D
        have Hy2 := pwI_mono5 (n : Int) 12 (by omega) (by omega) D
        have Hy3 := (pw12_at D D hD8 (Nat.le_refl _)).2.1
        have Hp3 := Lib.hid (fun z => powerQ_any (n : Int) D z (by omega) (fun j hj => by have h1 := pwI_mono5 (n : Int) 12 (by omega) (by omega) j; have h2 := (pw12_at D j hD8 hj).2.1; omega))
        have Hcs := Lib.hid (fun k z (hk : k ≤ D) => countQ_any D k z (by omega) (by omega))
        have HSD := HS.out (D + 1) (Nat.le_refl _)
        have Hfr := Lib.hid (fun z => fracQ_any (poolS (hh' : Int) ((n : Int) - hh') D N (D + 1)) (pwI (n : Int) D) z HSD.1 (by omega) Hy1 (by omega))
        generalize hC : (n : Int) - (hh' : Int) = C at *
        have hs0 : poolS (hh' : Int) C D N N = 0 := poolS_none _ _ _ _ _ (Nat.le_refl _)
        have Hs0 := Lib.hid hs0
        clear hs0
        go_enter Try.func47, Try.ntmps47
        go_wp2_with fail
        rw [HW.out]
        refine (H1.out _).mono ?_
        rintro e w2 ⟨rfl, rfl⟩
        go_wp2_with fail
        refine (Hv.out _ (Below.refl _ _)).mono ?_
        rintro e w2 ⟨rfl, hb⟩
        have k3 := cell_keep hb k2
        have Hb := Lib.hid hb
        clear hb
        go_wp2_with fail
        refine (H3.out _).mono ?_
        rintro e w3 ⟨rfl, rfl⟩
        go_wp2_with fail
        refine (Hc.out _ Hb.out).mono ?_
        rintro e w3 ⟨rfl, hb⟩
        have Hb2 := Lib.hid (Hb0.out.trans ((below_step Hb.out hb (Nat.le_refl _)).mono Hb0.out.size))
        clear hb
        go_wp2
        go_loopw [13, 14] (fun c i wr => ∃ k : Nat, N ≤ k ∧ k ≤ D + 1 ∧ i = .int .i64 (k : Int) ∧ c = .int .i64 (poolS (hh' : Int) C D N k) ∧ Hid (Below w.heap.size w wr)) (fun _ i _ => D + 1 - (intOf i).toNat)
        case atStart => exact ⟨N, Nat.le_refl _, by omega, rfl, by rw [Hs0.out], Hb2⟩
        case round =>
          obtain ⟨k, hk0, hk, rfl, rfl, Hd⟩ := hrel
          have hs := HS.out k hk
          by_cases hlt : k ≤ D
          · obtain ⟨⟨t1, t2⟩, ⟨t3, t4⟩, ⟨t5, t6⟩, t7, t8⟩ := HT.out k hlt
            have hs2 := HS.out (k + 1) (by omega)
            have hst := Hst.out k hk0
            have Hst2 := Lib.hid hst
            rw [hst] at hs2
            have Hc1 := Lib.hid (Hcs.out k · hlt)
            have Hc2 := Lib.hid (Hp1.out k · hlt)
            have Hc3 := Lib.hid (Hp2.out (D - k) · (by omega))
            have e1 : (D : Int) - (k : Int) = ((D - k : Nat) : Int) := by omega
            have hT : poolT (hh' : Int) C D k = (setsR D k : Int) * pwI (hh' : Int) k * pwI C (D - k) := rfl
            rw [hT] at hs2 Hst2 t7 t8
            clear hst hT
            have hsR : setsR D k ≤ 70 := (pw12_at D k hD8 hlt).2.2.1
            generalize poolS (hh' : Int) C D N k = Z at *
            generalize pwI (hh' : Int) k = P1 at *
            generalize pwI C (D - k) = P2 at *
            generalize setsR D k = R at *
            generalize D - k = M at *
            clear Hcs Hp1 Hp2 Hst HT HS Hfr Hp3 Hc Hv H1 H3
            go_wp2_with fail
            refine (Hc1.out _).mono ?_
            rintro e w4 ⟨rfl, rfl⟩
            go_wp2_with fail
            refine (Hc2.out _).mono ?_
            rintro e w4 ⟨rfl, hb⟩
            have Hd2 := Lib.hid (below_step Hd.out hb (Nat.le_refl _))
            clear hb
            go_wp2_with fail
            refine (Hc3.out _).mono ?_
            rintro e w5 ⟨rfl, hb⟩
            have Hd3 := Lib.hid (below_step Hd2.out hb (Nat.le_refl _))
            clear hb
            go_wp2
            go_roundw
            case rel => exact ⟨k + 1, by omega, by omega, by go_num, by rw [Hst2.out], Hd3⟩
            case measure => simp [intOf]; omega
          · obtain rfl : k = D + 1 := by omega
            go_wp2_with fail
            refine (Hp3.out _).mono ?_
            rintro e w4 ⟨rfl, hb⟩
            have Hd2 := Lib.hid (below_step Hd.out hb (Nat.le_refl _))
            clear hb
            go_wp2_with fail
            refine (Hfr.out _).mono ?_
            rintro e w5 ⟨rfl, hd⟩
            have Hd3 := Lib.hid (Hd2.out.trans (hd.below _))
            clear hd
            go_wp2
            go_ret3
            exact ⟨rfl, Hd3.out⟩
      · have e3 : (decide (0 ≤ need) && decide (need ≤ a)) = false := by simpa using hN
        rw [e3] at E H3
        obtain ⟨e0, e1, e2⟩ := pool_no (least := least) E
        rw [e0, e1, e2]
        clear e0 e1 e2 e3 E hdie h hN
        go_enter Try.func47, Try.ntmps47
        go_wp2_with fail
        rw [HW.out]
        refine (H1.out _).mono ?_
        rintro e w2 ⟨rfl, rfl⟩
        go_wp2_with fail
        refine (Hv.out _ (Below.refl _ _)).mono ?_
        rintro e w2 ⟨rfl, hb⟩
        have Hb := Lib.hid (below_step Hb0.out hb (Nat.le_refl _))
        clear hb
        go_wp2_with fail
        refine (H3.out _).mono ?_
        rintro e w3 ⟨rfl, rfl⟩
        go_wp2
        go_ret3
        exact ⟨rfl, Hb.out⟩
  · have e3 : (decide (1 ≤ a) && decide (a ≤ 8)) = false := by simpa using hA
    rw [e3] at E H1
    obtain ⟨e0, e1, e2⟩ := pool_no (least := least) (E.trans (by rw [Bool.false_and, Bool.false_and]))
    rw [e0, e1, e2]
    clear e0 e1 e2 e3 E h hA
    go_enter Try.func47, Try.ntmps47
    go_wp2_with fail
    rw [HW.out]
    refine (H1.out _).mono ?_
    rintro e w2 ⟨rfl, rfl⟩
    go_wp2
    go_ret3
    exact ⟨rfl, Hb0.out⟩
end Go.Proofs.Ytaimbadajgjhaaa
