/- Contracts: spreads of dice, both texts. -/
import Derived.Test.YtaimbadajgjhaaaNa
set_option linter.unusedVariables false
namespace Go.Proofs.Ytaimbadajgjhaaa
open Go.RowKit Go.Maps

def ok_SpreadOf (ds : List (List Int)) : Bool := diceB ds
def res_SpreadOf (ds : List (List Int)) : Int := if diceB ds = true then sprX ds ds.length else 0
def res2_SpreadOf (ds : List (List Int)) : Int := if diceB ds = true then sprY ds ds.length else 0
set_option maxHeartbeats 4000000 in
theorem impl_SpreadOf (ds : List (List Int)) (v : Value) (w : World) (hn : ds.length ≤ 1048576) (hm : totD ds ds.length ≤ 1048576) (h : SlD w v ds) :
    Calls Try.prog 34 #[v] w fun e w' => e = .returned (.tuple #[.int .i64 (res_SpreadOf ds), .int .i64 (res2_SpreadOf ds), .bool (ok_SpreadOf ds)]) ∧ Below w.heap.size w w' := by
  have Hv := Lib.hid (areDice_any ds v w hn hm h)
  have Hs := Lib.hid (fun hb z (hz : Below w.heap.size w z) => sums_impl ds v z hb (h.later hz))
  unfold res_SpreadOf res2_SpreadOf ok_SpreadOf
  obtain ⟨q, cap, rfl, -⟩ := h
  cases hb : diceB ds
  · rw [hb] at Hv
    rw [if_neg Bool.false_ne_true, if_neg Bool.false_ne_true]
    clear hb hm hn Hs
    generalize ds.length = n at *
    go_enter Try.func34, Try.ntmps34
    go_wp2_with fail
    refine (Hv.out).mono ?_
    rintro e w2 ⟨rfl, hd⟩
    have Hd := Lib.hid hd
    clear hd
    go_wp2
    go_ret3
    exact ⟨rfl, Hd.out⟩
  · rw [hb] at Hv
    rw [if_pos rfl, if_pos rfl]
    obtain ⟨h1, h6, hd⟩ := diceB_at hb
    have hT := topN_le ds hd ds.length (Nat.le_refl _)
    obtain ⟨⟨m1, m2⟩, ⟨m3, m4⟩, m5, m6⟩ := mean_bd ds h6 hd ds.length (Nat.le_refl _)
    obtain ⟨⟨s1, s2⟩, s3, s4⟩ := spr_bd ds h6 hd ds.length (Nat.le_refl _)
    have hS1 : mean1 ds ds.length = sumA (fun s => wayF ds ds.length (s : Int) * (s : Int)) (topN ds ds.length) := rfl
    have hS2 : mean2 ds ds.length = sumA (fun s => wayF ds ds.length (s : Int) * ((s : Int) * (s : Int))) (topN ds ds.length) := rfl
    have Hs2 := Lib.hid (Hs.out hb)
    have HA := Lib.hid (fun z bt (h : TV z bt (topN ds ds.length) (topN ds ds.length) (wayF ds ds.length)) => all_any bt (topN ds ds.length) (topN ds ds.length) (wayF ds ds.length) z h (by omega) (by omega) (fun s _ => wayF_nonneg ds _ _) (by rw [← allW_sum]; omega))
    rw [← allW_sum] at HA
    have HT1 := Lib.hid (fun z bt (h : TV z bt (topN ds ds.length) (topN ds ds.length) (wayF ds ds.length)) => total_any 69 bt (topN ds ds.length) (topN ds ds.length) (wayF ds ds.length) (fun k => (k : Int)) z h (by omega) (by omega) (fun s _ => Int.mul_nonneg (wayF_nonneg ds _ _) (by omega)) (by rw [← hS1]; omega)
      (run_enter Try.func69 (by kernel_rfl) (by kernel_rfl)) (fun s w' _ => itself_any (s : Int) w'))
    rw [← hS1] at HT1
    have HT2 := Lib.hid (fun z bt (h : TV z bt (topN ds ds.length) (topN ds ds.length) (wayF ds ds.length)) => total_any 70 bt (topN ds ds.length) (topN ds ds.length) (wayF ds ds.length) (fun k => (k : Int) * (k : Int)) z h (by omega) (by omega) (fun s _ => Int.mul_nonneg (wayF_nonneg ds _ _) (sq_nonneg5 _)) (by rw [← hS2]; omega)
      (run_enter Try.func70 (by kernel_rfl) (by kernel_rfl)) (fun s w' hs => square_any (s : Int) w' (by omega) (by omega)))
    rw [← hS2] at HT2
    have HQ1 := Lib.hid (fun z => square_any (mean1 ds ds.length) z m1 (by omega))
    have HQ2 := Lib.hid (fun z => square_any (allW ds ds.length) z (by omega) (by omega))
    have HF := Lib.hid (fun z => fracQ_any (sprP ds ds.length) (sprQ ds ds.length) z s1 (by omega) s3 (by omega))
    have p1 := sq_nonneg5 (mean1 ds ds.length)
    have p2 := Int.mul_le_mul m6 m4 m3 (by omega)
    have p3 := Int.mul_nonneg (show 0 ≤ allW ds ds.length by omega) m3
    have p4 := Int.mul_le_mul m2 m2 m1 (by omega)
    have eP : allW ds ds.length * mean2 ds ds.length - mean1 ds ds.length * mean1 ds ds.length = sprP ds ds.length := rfl
    have eQ : allW ds ds.length * allW ds ds.length = sprQ ds ds.length := rfl
    rw [show sprP ds ds.length / gcdI (sprP ds ds.length) (sprQ ds ds.length) = sprX ds ds.length from rfl, show sprQ ds ds.length / gcdI (sprP ds ds.length) (sprQ ds ds.length) = sprY ds ds.length from rfl] at HF
    rw [eQ] at HQ2
    clear Hs hS1 hS2 hb hm hn hd hT eQ
    generalize sprX ds ds.length = X at *
    generalize sprY ds ds.length = Y at *
    generalize sprP ds ds.length = P at *
    generalize sprQ ds ds.length = Q at *
    generalize mean1 ds ds.length = S at *
    generalize mean2 ds ds.length = SS at *
    generalize allW ds ds.length = A at *
    generalize wayF ds ds.length = WF at *
    generalize topN ds ds.length = T at *
    generalize ds.length = n at *
    go_enter Try.func34, Try.ntmps34
    go_wp2_with fail
    refine (Hv.out).mono ?_
    rintro e w2 ⟨rfl, hd⟩
    have Hd := Lib.hid hd
    clear hd
    go_wp2_with fail
    refine (Hs2.out _ Hd.out).mono ?_
    rintro e w3 ⟨bm, rfl, ht, hd⟩
    have Ht := Lib.hid ht
    have Hd3 := Lib.hid (below_step Hd.out hd (Nat.le_refl _))
    clear hd ht
    go_wp2_with fail
    refine (HA.out _ _ Ht.out).mono ?_
    rintro e w4 ⟨rfl, hd⟩
    have Ht4 := Lib.hid (Ht.out.later hd)
    have Hd4 := Lib.hid (below_step Hd3.out hd (Nat.le_refl _))
    clear hd
    go_wp2_with fail
    refine (HT2.out _ _ Ht4.out).mono ?_
    rintro e w5 ⟨rfl, hd⟩
    have Ht5 := Lib.hid (Ht4.out.later hd)
    have Hd5 := Lib.hid (below_step Hd4.out hd (Nat.le_refl _))
    clear hd
    go_wp2_with fail
    refine (HT1.out _ _ Ht5.out).mono ?_
    rintro e w6 ⟨rfl, hd⟩
    have Hd6 := Lib.hid (below_step Hd5.out hd (Nat.le_refl _))
    clear hd
    go_wp2_with fail
    refine (HQ1.out _).mono ?_
    rintro e w7 ⟨rfl, rfl⟩
    go_wp2_with fail
    refine (HQ2.out _).mono ?_
    rintro e w7 ⟨rfl, rfl⟩
    go_wp2_with fail
    refine (HF.out _).mono ?_
    rintro e w7 ⟨rfl, hd⟩
    have Hd7 := Lib.hid (Hd6.out.trans (hd.below _))
    clear hd
    go_wp2
    go_ret3
    exact ⟨rfl, Hd7.out⟩
set_option maxRecDepth 100000 in
set_option maxHeartbeats 4000000 in
theorem spec_SpreadOf (ds : List (List Int)) (v : Value) (w : World) (hn : ds.length ≤ 1048576) (hm : totD ds ds.length ≤ 1048576) (h : SlD w v ds) :
    Calls Try.prog 33 #[v] w fun e w' => e = .returned (.tuple #[.int .i64 (res_SpreadOf ds), .int .i64 (res2_SpreadOf ds), .bool (ok_SpreadOf ds)]) ∧ Below w.heap.size w w' := by
  have Hv := Lib.hid (diceS_any ds v w hn hm h)
  unfold res_SpreadOf res2_SpreadOf ok_SpreadOf
  obtain ⟨q, cap, rfl, hf⟩ := h
  have Hf := Lib.hid hf
  clear hf
  cases hb : diceB ds
  · rw [hb] at Hv
    rw [if_neg Bool.false_ne_true, if_neg Bool.false_ne_true]
    clear hb hm hn
    generalize ds.length = n at *
    go_enter Try.func33, Try.ntmps33
    go_wp2_with fail
    refine (Hv.out).mono ?_
    rintro e w2 ⟨rfl, hd⟩
    have Hd := Lib.hid (hd.below w.heap.size)
    clear hd
    go_wp2
    go_ret3
    exact ⟨rfl, Hd.out⟩
  · rw [hb] at Hv
    rw [if_pos rfl, if_pos rfl]
    obtain ⟨h1, h6, hd⟩ := diceB_at hb
    have HN := Lib.hid (fun j (hj : j < ds.length) => spr_next ds h6 hd j hj _ _ _ rfl rfl rfl)
    have HL := Lib.hid (fun j (hj : j < ds.length) => (dieB_at (hd j hj)).2.1)
    have HL1 := Lib.hid (fun j (hj : j < ds.length) => (dieB_at (hd j hj)).1)
    have Hfc := Lib.hid (fun j (hj : j < ds.length) => (dieB_at (hd j hj)).2.2.1)
    have HSm := Lib.hid (fun j (hj : j < ds.length) k hk => (sum_bd (ds.getD j []) (hd j hj) k hk))
    have HS := Lib.hid (fun j (hj : j < ds.length) u z (h : Sl (Value.int .i64) 0 z u (ds.getD j [])) => sumS_any (ds.getD j []) u z (by have := (dieB_at (hd j hj)).2.1; omega) (fun k hk => by have := (sum_bd (ds.getD j []) (hd j hj) k hk).1; have := (dieB_at (hd j hj)).2.1; omega) h)
    have HF := Lib.hid (fun p q z => frac5_any p q z)
    have Hsq := Lib.hid (fun fs k => show sqL fs (k + 1) = sqL fs k + fs.getD k 0 * fs.getD k 0 from rfl)
    have z1 : sprX ds 0 = 0 := by unfold sprX; rw [(spr_zero ds).1]; exact Int.zero_ediv _
    have z2 : sprY ds 0 = 1 := by unfold sprY; rw [(spr_zero ds).1, (spr_zero ds).2]; decide
    clear hd hb hm
    obtain ⟨n, hn1⟩ : ∃ n, n = ds.length := ⟨_, rfl⟩
    rw [← hn1] at h1 h6 Hf HN HL HL1 HSm HS Hfc Hv hn
    rw [← hn1]
    clear hn1
    go_enter Try.func33, Try.ntmps33
    go_wp2_with fail
    refine (Hv.out).mono ?_
    rintro e w2 ⟨rfl, hd⟩
    have Hd := Lib.hid hd
    clear hd Hv
    go_wp2
    go_loopw [5, 6, 21] (fun x y i wr => ∃ j : Nat, j ≤ n ∧ i = .int .i64 (j : Int) ∧ x = .int .i64 (sprX ds j) ∧ y = .int .i64 (sprY ds j) ∧ Drawn w wr) (fun _ _ i _ => n - (intOf i).toNat)
    case atStart => exact ⟨0, Nat.zero_le _, rfl, by rw [z1], by rw [z2], Hd.out⟩
    case round =>
      obtain ⟨wo, rfl⟩ : ∃ z, z = wr := ⟨_, rfl⟩
      obtain ⟨j, hj, rfl, rfl, rfl, hw⟩ := hrel
      by_cases hlt : j < n
      · obtain ⟨hcap, b, off, rfl, hbs, hcell⟩ := Hf.out (by omega)
        obtain ⟨s, g1, g2⟩ := hcell j hlt
        have c1 := (hw.cell _).trans g1
        have hL := HL.out j hlt
        have hL1 := HL1.out j hlt
        have HNj := Lib.hid (HN.out j hlt)
        have HSmj := Lib.hid (HSm.out j hlt)
        have Hfj := Lib.hid (Hfc.out j hlt)
        have hsm := (HSm.out j hlt _ (Nat.le_refl _)).1
        have Hcall := Lib.hid (HS.out j hlt s wo (g2.drawn hw))
        have Hsqj := Lib.hid (Hsq.out (ds.getD j []))
        have hs0 : sqL (ds.getD j []) 0 = 0 := rfl
        have Hs0 := Lib.hid hs0
        obtain ⟨ps, cs, rfl, g3⟩ := g2
        obtain ⟨hcf, bf, of, rfl, hbf, hcc⟩ := g3 (by omega)
        have Hcc := Lib.hid hcc
        clear hcell g1 g3 hcc hs0 HN HL HL1 HSm HS Hfc
        generalize sumL (ds.getD j []) (ds.getD j []).length = F at *
        generalize (ds.getD j []).length = L at *
        generalize ds.getD j [] = fj at *
        go_wp2_with fail
        refine (Hcall.out).mono ?_
        rintro e w3 ⟨rfl, hd⟩
        have Hw3 := Lib.hid (hw.trans hd)
        have c1b := (Hw3.out.cell _).trans ((hw.cell _).symm.trans c1)
        clear hd c1 Hcall
        go_wp2
        go_loopw [10, 42] (fun c i wi => ∃ z : Nat, z ≤ L ∧ i = .int .i64 (z : Int) ∧ c = .int .i64 (sqL fj z) ∧ Drawn w3 wi) (fun _ i _ => L - (intOf i).toNat)
        case atStart => exact ⟨0, Nat.zero_le _, rfl, by rw [Hs0.out], Drawn.refl _⟩
        case round =>
          obtain ⟨z, hzL, rfl, rfl, hwz⟩ := hrel
          have hsz := (HSmj.out z hzL).2
          by_cases hlz : z < L
          · have c2 := (hwz.cell _).trans c1b
            have c3 := ((Hw3.out.trans hwz).cell _).trans (Hcc.out z hlz)
            have hst := Hsqj.out z
            have hx := Hfj.out z hlz
            have Hst2 := Lib.hid hst
            clear hst
            generalize fj.getD z 0 = x at *
            have x2 := Int.mul_nonneg hx.1 hx.1
            have x3 := Int.mul_le_mul hx.2 hx.2 hx.1 (by omega)
            generalize sqL fj z = S at *
            go_wp2
            go_region
            all_goals
              go_wp2
              go_roundw
              case rel => exact ⟨z + 1, by omega, by go_num, by rw [Hst2.out], hwz.more _⟩
              case measure => simp [intOf]; omega
          · obtain rfl : z = L := by omega
            have hN := HNj.out
            obtain ⟨⟨⟨n1, n2⟩, n3, n4⟩, ⟨v0, v1, v2⟩, ⟨p1, p2⟩, ⟨⟨y1, y2⟩, y3, y4⟩, e1, e2⟩ := hN
            have HFj := Lib.hid (HF.out _ _ wr p1 (by omega) y3 (by omega))
            rw [e1, e2] at HFj
            have f2 := Int.mul_nonneg hsm.1 hsm.1
            have f3 := Int.mul_le_mul (show F ≤ 240 by omega) (show F ≤ 240 by omega) hsm.1 (by omega)
            have f4 := Int.mul_nonneg (show 0 ≤ (z : Int) by omega) hsz.1
            have f5 := Int.mul_le_mul (show (z : Int) ≤ 12 by omega) (show sqL fj z ≤ 4800 by omega) hsz.1 (by omega)
            clear e1 e2 HNj
            generalize sqL fj z = S at *
            generalize sprX ds j = X at *
            generalize sprY ds j = Y at *
            have hWW := Lib.hid (Hw3.out.trans hwz)
            go_wp2_with fail
            refine (HFj.out).mono ?_
            rintro e w4 ⟨rfl, hd⟩
            have Hw4 := Lib.hid (hWW.out.trans hd)
            clear hd
            go_wp2
            go_roundw
            case rel => exact ⟨j + 1, by omega, by go_num, rfl, rfl, Hw4.out⟩
            case measure => simp [intOf]; omega
      · obtain rfl : j = n := by omega
        go_wp2
        go_ret3
        exact ⟨rfl, hw.below _⟩
end Go.Proofs.Ytaimbadajgjhaaa
