/- Contracts: cards turned on a clock: ClockDeal, the program. -/
import Derived.Test.YtglmahgbdgbbpaaYl
import Derived.WalkMore
import Derived.ScopeJumps
set_option linter.unusedVariables false
namespace Go.Proofs.Ytglmahgbdgbbpaa
open Go.RowKit

theorem sl_one (w : World) (x : Int) (t : TypeId) : Sl (Value.int .i64) 0 (w.alloc (.cells #[.int .i64 x] t)) (.slice (some ⟨w.heap.size, 0, none⟩) 1 1) [x] :=
  ⟨_, 1, rfl, fun _ => ⟨Nat.le_refl _, w.heap.size, 0, rfl, by simp, fun i hi => by
    obtain rfl : i = 0 := by simpa using hi
    exact World.cell?_alloc_at _ _ _ _ rfl⟩⟩
set_option maxRecDepth 100000 in
set_option maxHeartbeats 4000000 in
theorem clock_impl (fs : List Int) (v : Value) (p h : Nat) (w : World) (hn : fs.length ≤ 1048576) (hs : Sl (Value.int .i64) 0 w v fs) (hd : deckB fs = true) (hp1 : 1 ≤ p) (hp2 : p ≤ 13) (hh : fs.length = p * h) :
    Calls Try.prog 26 #[v, .int .i64 (p : Int)] w fun e w' => e = .returned (.tuple #[.int .i64 ((clkN fs p h : Nat) : Int), .bool (((clkN fs p h : Nat) : Int) == (fs.length : Int)), .bool true]) ∧ Below w.heap.size w w' := by
  have HRep := Lib.hid (fun v z hz => repeat_any (h : Int) p v z hp1 (by omega) hz)
  have HD := Lib.hid (fun z hz => deckI_yes fs v z hn (hs.later hz) hd)
  have HIn := Lib.hid (fun z => within_yes (p : Int) 1 13 z (by omega) (by omega))
  obtain ⟨d1, d2, -⟩ := deckB_len hd
  have Hval := Lib.hid (fun k hk => deck_atY hd k hk)
  have HI0 := Lib.hid (clk_zero fs p h hp1)
  have HIs := Lib.hid (fun k (hi : ClkI fs p h k) hb => clk_succ hi hb hp1)
  have HIl := Lib.hid (fun k (hi : ClkI fs p h k) => hi.len)
  have HIa := Lib.hid (fun k (hi : ClkI fs p h k) => hi.at')
  have HIb := Lib.hid (fun k (hi : ClkI fs p h k) => hi.bd)
  have Hlt := Lib.hid (fun k (hi : ClkI fs p h k) hb => clk_lt hi hb)
  have Hle := Lib.hid (fun k (hi : ClkI fs p h k) => clk_le hi)
  have Hidx := Lib.hid (fun k z (hi : ClkI fs p h k) hz => clk_idx (z := z) hi hz)
  have HB := Lib.hid (fun k => show clkB fs p h k = decide (0 < (clkS fs p h k).1.getD (clkS fs p h k).2 0) from rfl)
  have HS1 := Lib.hid (fun k => show (clkS fs p h (k + 1)).1 = (clkS fs p h k).1.set (clkS fs p h k).2 ((clkS fs p h k).1.getD (clkS fs p h k).2 0 - 1) from rfl)
  have HS2 := Lib.hid (fun k => show (clkS fs p h (k + 1)).2 = (fs.getD (((clkS fs p h k).1.getD (clkS fs p h k).2 0 - 1).toNat * p + (clkS fs p h k).2) 0).toNat % p from rfl)
  have HS01 := Lib.hid (show (clkS fs p h 0).1 = List.replicate p (h : Int) from rfl)
  have HS02 := Lib.hid (show (clkS fs p h 0).2 = p - 1 from rfl)
  have HN0 := Lib.hid (show clkG (clkB fs p h) (p * h + 1) 0 = clkN fs p h from rfl)
  have HGy := Lib.hid (fun f k hb => clkG_yes (st := clkB fs p h) (f := f) (k := k) hb)
  have HGn := Lib.hid (fun f k hb => clkG_no (st := clkB fs p h) (f := f) (k := k) hb)
  obtain ⟨q, cap, rfl, hf⟩ := hs
  have Hf := Lib.hid hf
  clear hf hd
  generalize ClkI fs p h = I at *
  generalize clkB fs p h = B at *
  generalize clkN fs p h = N at *
  generalize clkS fs p h = S at *
  generalize clkG B = G at *
  obtain ⟨n, hn1⟩ : ∃ n, n = fs.length := ⟨_, rfl⟩
  rw [← hn1] at hn HD d1 d2 Hval Hf hh
  rw [← hn1]
  clear hn1
  have Hhh := Lib.hid hh
  have hmod : (n : Int) % (p : Int) = 0 := by rw [hh, Int.natCast_mul, Int.mul_emod_right]
  have hquo : (n : Int) / (p : Int) = (h : Int) := by rw [hh, Int.natCast_mul, Int.mul_ediv_cancel_left _ (by omega)]
  have dne : ((p : Int) = 0) = False := eq_false (by omega)
  have dne2 : ((p : Int) == 0) = false := by rw [beq_eq_false_iff_ne]; omega
  have hpn : p * h ≤ 52 := by omega
  have hh52 : h ≤ 52 := by have := Nat.mul_le_mul_right h hp1; omega
  clear hh
  go_enter Try.func26, Try.ntmps26
  go_wp2
  refine wp_scope_jumps 0 (fun a' w' => ∃ (j A : Nat) (rv u11 u12 u13 u14 u15 u16 u17 u18 u19 u20 u21 u22 u23 u24 u25 u26 u27 u28 u29 u30 u31 u32 u33 u34 u35 u36 u37 u38 u39 u40 u41 u42 u43 u44 u45 u46 u47 u48 u49 u50 u51 u52 u53 u54 u55 u56 u57 u58 u59 u60 : Value) (lo hi : Nat), a' = { tmps := #[.slice q n cap, .int .i64 (p : Int), undef, undef, .int .i64 0, .bool false, .bool false, .int .i64 (n : Int), rv, .int .i64 ((j : Int)), .int .i64 ((A : Int)), u11, u12, u13, u14, u15, u16, u17, u18, u19, u20, u21, u22, u23, u24, u25, u26, u27, u28, u29, u30, u31, u32, u33, u34, u35, u36, u37, u38, u39, u40, u41, u42, u43, u44, u45, u46, u47, u48, u49, u50, u51, u52, u53, u54, u55, u56, u57, u58, u59, u60, undef, undef, undef, undef], defers := [] } ∧ w.heap.size ≤ lo ∧ Hid (A = (S j).2) ∧ Hid (I j) ∧ Hid (G (p * h + 1 - j) j = N) ∧ Hid (Sw (Value.int .i64) 0 w' rv (S j).1 lo hi) ∧ Hid (Below w.heap.size w w')) (fun a' _ => n - (intOf (a'.tmps.getD 9 undef)).toNat) rfl ?_ ?_
  · go_wp2_with (first | (go_at_call 61; (with_reducible refine (HD.out _ (Below.refl _ _)).mono ?_); rintro e w1 ⟨rfl, hb1⟩; have Hb1 := Lib.hid hb1; clear hb1) | (go_at_call 62; (with_reducible refine (HIn.out _).mono ?_); rintro e w3 ⟨rfl, rfl⟩) | (go_at_call 63; (refine (HRep.out _ _ (sl_one w1 (h : Int) 2)).mono ?_); rintro e wr ⟨rv, rfl, hr, hb4⟩; have Hr := Lib.hid hr; have Hb4 := Lib.hid ((Hb1.out.alloc Hb1.out.size _).trans (hb4.mono (by have := Hb1.out.size; simp; omega))); have hz4 := hb4.size; clear hr hb4))
    have hz1 : w.heap.size ≤ w1.heap.size := Hb1.out.size
    obtain ⟨j, hj0⟩ : ∃ j, j = 0 := ⟨0, rfl⟩
    have hI : Hid (I j) := Lib.hid (by rw [hj0]; exact HI0.out)
    have hG : Hid (G (p * h + 1 - j) j = N) := Lib.hid (by rw [hj0]; exact HN0.out)
    have hSw : Hid (Sw (Value.int .i64) 0 wr rv (S j).1 (w1.alloc (.cells #[.int .i64 (h : Int)] 2)).heap.size wr.heap.size) := Lib.hid (by rw [hj0, HS01.out]; exact Hr.out)
    have hA0 : (S j).2 = p - 1 := by rw [hj0]; exact HS02.out
    have hx : 0 < (S j).1.getD (S j).2 0 := by
      have hh1 : 0 < h := by
        cases h with
        | zero => have := Hhh.out; omega
        | succ h => omega
      rw [hj0, HS01.out, HS02.out]
      simp [List.getD, show p - 1 < p by omega]
      omega
    have HA0 := Lib.hid hA0
    have Hj0 := Lib.hid hj0
    have hbw : Hid (Below w.heap.size w wr) := Hb4
    obtain ⟨lo, hlo9⟩ : ∃ lo, lo = (w1.alloc (.cells #[.int .i64 (h : Int)] 2)).heap.size := ⟨_, rfl⟩
    obtain ⟨hi, hhi9⟩ : ∃ hi, hi = wr.heap.size := ⟨_, rfl⟩
    have hlo : w.heap.size ≤ lo := by rw [hlo9]; simp; omega
    rw [← hlo9] at hSw
    have hSw : Hid (Sw (Value.int .i64) 0 wr rv (S j).1 lo hi) := Lib.hid (by rw [hhi9]; exact hSw.out)
    clear Hr Hb4 hlo9 hhi9 hA0 hj0
    have hjle := Hle.out j hI.out
    have hIa := HIa.out j hI.out
    have hIl := HIl.out j hI.out
    have hbd := (HIb.out j hI.out) _ hIa
    obtain ⟨f, hf9⟩ : ∃ f, p * h + 1 - j = f + 1 := ⟨p * h - j, by omega⟩
    rw [hf9] at hG
    obtain ⟨prv, crv, erv, -⟩ := hSw.out
    rw [hIl] at erv
    subst erv
    have hcell := hSw.out.open' (S j).2 (by rw [hIl]; exact hIa)
    obtain ⟨bl, ol, rfl, ⟨hlo1, hlo2, hlo3⟩, hbl, c1, c2⟩ := hcell
    have hBj := HB.out j
    rw [decide_eq_true hx] at hBj
    have HI2 := Lib.hid (HIs.out j hI.out hBj)
    have hjlt := Hlt.out j hI.out hBj
    have hjn : j < n := by have := Hhh.out; omega
    have HG2 := Lib.hid (show G (p * h + 1 - (j + 1)) (j + 1) = N by rw [show p * h + 1 - (j + 1) = f by omega, ← HGy.out f j hBj]; exact hG.out)
    obtain ⟨z, hz⟩ : ∃ z : Nat, (S j).1.getD (S j).2 0 = (z : Int) + 1 := ⟨((S j).1.getD (S j).2 0).toNat - 1, by omega⟩
    obtain ⟨hq, hzh⟩ := Hidx.out j z hI.out hz
    have hs1 := HS1.out j
    have hs2 := HS2.out j
    rw [hz, show (z : Int) + 1 - 1 = (z : Int) by omega] at hs1 hs2
    rw [Int.toNat_natCast] at hs2
    rw [hz] at c1
    have hst := hSw.out.store (S j).2 (by rw [hIl]; exact hIa) (z : Int)
    rw [← hs1] at hst
    have Hst := Lib.hid hst
    obtain ⟨Z, hZ⟩ : ∃ Z, Z = z * p := ⟨_, rfl⟩
    rw [← hZ] at hq hs2
    have hZI : (z : Int) * (p : Int) = (Z : Int) := by rw [hZ, Int.natCast_mul]
    have hqn : Z + (S j).2 < n := by have := Hhh.out; omega
    obtain ⟨y0, y1⟩ := Hval.out (Z + (S j).2) hqn
    obtain ⟨Y, hY⟩ : ∃ Y : Nat, fs.getD (Z + (S j).2) 0 = (Y : Int) := ⟨(fs.getD (Z + (S j).2) 0).toNat, by omega⟩
    rw [hY, Int.toNat_natCast] at hs2
    have Hs2 := Lib.hid hs2
    obtain ⟨hcap, bd, od, rfl, hbs, hdc⟩ := Hf.out (by omega)
    have hdc2 := hdc (Z + (S j).2) hqn
    rw [hY] at hdc2
    have c3 : (wr.setCell ⟨bl, ol + (S j).2, none⟩ (.int .i64 (z : Int))).cell? ⟨bl, ol + (S j).2, none⟩ = some (.int .i64 (z : Int)) := World.cell?_setCell_same _ _ _ c1
    have c4 : (wr.setCell ⟨bl, ol + (S j).2, none⟩ (.int .i64 (z : Int))).cell? ⟨bd, od + (Z + (S j).2), none⟩ = some (.int .i64 (Y : Int)) := (World.cell?_setCell_other _ _ _ _ (fun h => by injection h; omega)).trans (cell_keep hbw.out hdc2)
    have hym : (Y : Int) % (p : Int) = ((Y % p : Nat) : Int) := rfl
    have hY52 : Y ≤ 52 := by omega
    have hwl : w.heap.size ≤ bl := by omega
    have hb2 := Lib.hid (hbw.out.setCell (p := ⟨bl, ol + (S j).2, none⟩) hwl (Value.int .i64 (z : Int)))
    clear hs1 hs2 hst hdc hdc2 hY y0 y1 hZ hz hx hBj hbd hf9
    generalize hA9 : (S j).2 = A at *
    have HA9 := Lib.hid hA9
    clear hA9
    have Hym := Lib.hid hym
    generalize Y % p = A2 at *
    have hk1 : (p : Int) - 1 = (A : Int) := by have := HA0.out; omega
    go_wp2
    go_step3
    go_wp2
    try go_step3
    rw [Hym.out]
    have E1 : Hid (A2 = (S 1).2) := Lib.hid (by have := Hs2.out.symm; rw [Hj0.out] at this; exact this)
    have E2 : Hid (I 1) := Lib.hid (by have := HI2.out; rw [Hj0.out] at this; exact this)
    have E3 : Hid (G (p * h + 1 - 1) 1 = N) := Lib.hid (by have := HG2.out; rw [Hj0.out] at this; exact this)
    have E4 := Lib.hid (show Sw (Value.int .i64) 0 _ _ (S 1).1 lo hi by have := Hst.out; rw [Hj0.out] at this; exact this)
    rw [show (Value.int .i64 1) = Value.int .i64 ((1 : Nat) : Int) from rfl]
    exact ⟨rfl, ⟨1, A2, _, _, _, _, _, _, _, _, _, _, _, _, _, _, _, _, _, _, _, _, _, _, _, _, _, _, _, _, _, _, _, _, _, _, _, _, _, _, _, _, _, _, _, _, _, _, _, _, _, _, _, lo, hi, rfl, hlo, E1, E2, E3, E4, hb2⟩⟩
  · rintro a' wr ⟨j, A, rv, u11, u12, u13, u14, u15, u16, u17, u18, u19, u20, u21, u22, u23, u24, u25, u26, u27, u28, u29, u30, u31, u32, u33, u34, u35, u36, u37, u38, u39, u40, u41, u42, u43, u44, u45, u46, u47, u48, u49, u50, u51, u52, u53, u54, u55, u56, u57, u58, u59, u60, lo, hi, rfl, hlo, hA8, hI, hG, hSw, hbw⟩
    rw [hA8.out]
    have hjle := Hle.out j hI.out
    have hIa := HIa.out j hI.out
    have hIl := HIl.out j hI.out
    have hbd := (HIb.out j hI.out) _ hIa
    obtain ⟨f, hf9⟩ : ∃ f, p * h + 1 - j = f + 1 := ⟨p * h - j, by omega⟩
    rw [hf9] at hG
    obtain ⟨prv, crv, erv, -⟩ := hSw.out
    rw [hIl] at erv
    subst erv
    have hcell := hSw.out.open' (S j).2 (by rw [hIl]; exact hIa)
    obtain ⟨bl, ol, rfl, ⟨hlo1, hlo2, hlo3⟩, hbl, c1, c2⟩ := hcell
    have hBj := HB.out j
    by_cases hx : 0 < (S j).1.getD (S j).2 0
    · rw [decide_eq_true hx] at hBj
      have HI2 := Lib.hid (HIs.out j hI.out hBj)
      have hjlt := Hlt.out j hI.out hBj
      have hjn : j < n := by have := Hhh.out; omega
      have HG2 := Lib.hid (show G (p * h + 1 - (j + 1)) (j + 1) = N by rw [show p * h + 1 - (j + 1) = f by omega, ← HGy.out f j hBj]; exact hG.out)
      obtain ⟨z, hz⟩ : ∃ z : Nat, (S j).1.getD (S j).2 0 = (z : Int) + 1 := ⟨((S j).1.getD (S j).2 0).toNat - 1, by omega⟩
      obtain ⟨hq, hzh⟩ := Hidx.out j z hI.out hz
      have hs1 := HS1.out j
      have hs2 := HS2.out j
      rw [hz, show (z : Int) + 1 - 1 = (z : Int) by omega] at hs1 hs2
      rw [Int.toNat_natCast] at hs2
      rw [hz] at c1
      have hst := hSw.out.store (S j).2 (by rw [hIl]; exact hIa) (z : Int)
      rw [← hs1] at hst
      have Hst := Lib.hid hst
      obtain ⟨Z, hZ⟩ : ∃ Z, Z = z * p := ⟨_, rfl⟩
      rw [← hZ] at hq hs2
      have hZI : (z : Int) * (p : Int) = (Z : Int) := by rw [hZ, Int.natCast_mul]
      have hqn : Z + (S j).2 < n := by have := Hhh.out; omega
      obtain ⟨y0, y1⟩ := Hval.out (Z + (S j).2) hqn
      obtain ⟨Y, hY⟩ : ∃ Y : Nat, fs.getD (Z + (S j).2) 0 = (Y : Int) := ⟨(fs.getD (Z + (S j).2) 0).toNat, by omega⟩
      rw [hY, Int.toNat_natCast] at hs2
      have Hs2 := Lib.hid hs2
      obtain ⟨hcap, bd, od, rfl, hbs, hdc⟩ := Hf.out (by omega)
      have hdc2 := hdc (Z + (S j).2) hqn
      rw [hY] at hdc2
      have c3 : (wr.setCell ⟨bl, ol + (S j).2, none⟩ (.int .i64 (z : Int))).cell? ⟨bl, ol + (S j).2, none⟩ = some (.int .i64 (z : Int)) := World.cell?_setCell_same _ _ _ c1
      have c4 : (wr.setCell ⟨bl, ol + (S j).2, none⟩ (.int .i64 (z : Int))).cell? ⟨bd, od + (Z + (S j).2), none⟩ = some (.int .i64 (Y : Int)) := (World.cell?_setCell_other _ _ _ _ (fun h => by injection h; omega)).trans (cell_keep hbw.out hdc2)
      have hym : (Y : Int) % (p : Int) = ((Y % p : Nat) : Int) := rfl
      have hY52 : Y ≤ 52 := by omega
      have hwl : w.heap.size ≤ bl := by omega
      have hb2 := Lib.hid (hbw.out.setCell (p := ⟨bl, ol + (S j).2, none⟩) hwl (Value.int .i64 (z : Int)))
      clear hs1 hs2 hst hdc hdc2 hY y0 y1 hZ hz hx hBj hbd hf9
      generalize hA9 : (S j).2 = A at *
      have HA9 := Lib.hid hA9
      clear hA9
      have Hym := Lib.hid hym
      generalize Y % p = A2 at *
      go_wp2
      go_step3
      rw [Hym.out]
      exact ⟨rfl, ⟨j + 1, A2, _, _, _, _, _, _, _, _, _, _, _, _, _, _, _, _, _, _, _, _, _, _, _, _, _, _, _, _, _, _, _, _, _, _, _, _, _, _, _, _, _, _, _, _, _, _, _, _, _, _, _, lo, hi, rfl, hlo, Lib.hid Hs2.out.symm, HI2, HG2, Hst, hb2⟩, by simp [intOf]; omega⟩
    · rw [decide_eq_false hx] at hBj
      have HNj := Lib.hid (show N = j by rw [← hG.out]; exact HGn.out f j hBj)
      have hx0 : (S j).1.getD (S j).2 0 = 0 := by omega
      rw [hx0] at c1
      clear hBj hbd hf9 hx0 hx
      generalize (S j).2 = A at *
      go_wp2
      simp only [Exit.jump]
      go_ret3
      exact ⟨by rw [HNj.out]; simp, hbw.out⟩
end Go.Proofs.Ytglmahgbdgbbpaa
