/- Contracts: cards turned on a clock: ClockDeal, the model. -/
import Derived.Test.YtglmahgbdgbbpaaYk
import Derived.Test.YtglmahgbdgbbpaaYr
import Derived.Test.YtglmahgbdgbbpaaQa
import Derived.Test.YtglmahgbdgbbpaaDc
import Derived.IntWalk
set_option linter.unusedVariables false
namespace Go.Proofs.Ytglmahgbdgbbpaa
open Go.RowKit

def okCD (fs : List Int) (p : Int) : Bool := deckB fs && ((decide (1 ≤ p) && decide (p ≤ 13)) && decide ((fs.length : Int) % p = 0))
def numCD (fs : List Int) (p : Int) : Nat := clkN fs p.toNat (fs.length / p.toNat)
def ok_ClockDeal (fs : List Int) (p : Int) : Bool := okCD fs p
def res_ClockDeal (fs : List Int) (p : Int) : Int := if okCD fs p = true then (numCD fs p : Int) else 0
def res2_ClockDeal (fs : List Int) (p : Int) : Bool := if okCD fs p = true then (numCD fs p : Int) == (fs.length : Int) else false
theorem deck_atY {fs : List Int} (h : deckB fs = true) (k : Nat) (hk : k < fs.length) : 0 ≤ fs.getD k 0 ∧ fs.getD k 0 < (fs.length : Int) := by
  have := goodAt_bd (ordB_at (deckB_len h).2.2 k hk)
  exact ⟨this.1, this.2.1⟩
set_option maxRecDepth 100000 in
set_option maxHeartbeats 4000000 in
theorem clock_spec (fs : List Int) (v : Value) (p h : Nat) (w : World) (hn : fs.length ≤ 1048576) (hs : Sl (Value.int .i64) 0 w v fs) (hd : deckB fs = true) (hp1 : 1 ≤ p) (hp2 : p ≤ 13) (hh : fs.length = p * h) :
    Calls Try.prog 25 #[v, .int .i64 (p : Int)] w fun e w' => e = .returned (.tuple #[.int .i64 ((clkN fs p h : Nat) : Int), .bool (((clkN fs p h : Nat) : Int) == (fs.length : Int)), .bool true]) ∧ Below w.heap.size w w' := by
  obtain ⟨i0, hi, hz0, hz1, hz2⟩ := info_parts (show (Try.prog.info? 2).map (fun i => (i.zero, i.size, i.bytes)) = some (some (.int .i64 0), 1, 8) by kernel_rfl)
  have HD := Lib.hid (deck_yes fs v w hn hs hd)
  have HIn := Lib.hid (fun z => in_yes (p : Int) 1 13 z (by omega) (by omega))
  obtain ⟨d1, d2, -⟩ := deckB_len hd
  have Hval := Lib.hid (fun k hk => deck_atY hd k hk)
  have HI0 := Lib.hid (clk_zero fs p h hp1)
  have HIs := Lib.hid (fun k (hi : ClkI fs p h k) hb => clk_succ hi hb hp1)
  have HIl := Lib.hid (fun k (hi : ClkI fs p h k) => hi.len)
  have HIa := Lib.hid (fun k (hi : ClkI fs p h k) => hi.at')
  have HIb := Lib.hid (fun k (hi : ClkI fs p h k) => hi.bd)
  have Hlt := Lib.hid (fun k (hi : ClkI fs p h k) hb => clk_lt hi hb)
  have Hle := Lib.hid (fun k (hi : ClkI fs p h k) => clk_le hi)
  have Hidx := Lib.hid (fun k z (hi : ClkI fs p h k) hz => clk_idx (z := z) hi hz)
  have HB := Lib.hid (fun k => show clkB fs p h k = decide (0 < (clkS fs p h k).1.getD (clkS fs p h k).2 0) from rfl)
  have HS1 := Lib.hid (fun k => show (clkS fs p h (k + 1)).1 = (clkS fs p h k).1.set (clkS fs p h k).2 ((clkS fs p h k).1.getD (clkS fs p h k).2 0 - 1) from rfl)
  have HS2 := Lib.hid (fun k => show (clkS fs p h (k + 1)).2 = (fs.getD (((clkS fs p h k).1.getD (clkS fs p h k).2 0 - 1).toNat * p + (clkS fs p h k).2) 0).toNat % p from rfl)
  have HS01 := Lib.hid (show (clkS fs p h 0).1 = List.replicate p (h : Int) from rfl)
  have HS02 := Lib.hid (show (clkS fs p h 0).2 = p - 1 from rfl)
  have HN0 := Lib.hid (show clkG (clkB fs p h) (p * h + 1) 0 = clkN fs p h from rfl)
  have HGy := Lib.hid (fun f k hb => clkG_yes (st := clkB fs p h) (f := f) (k := k) hb)
  have HGn := Lib.hid (fun f k hb => clkG_no (st := clkB fs p h) (f := f) (k := k) hb)
  obtain ⟨q, cap, rfl, hf⟩ := hs
  have Hf := Lib.hid hf
  clear hf hd
  generalize ClkI fs p h = I at *
  generalize clkB fs p h = B at *
  generalize clkN fs p h = N at *
  generalize clkS fs p h = S at *
  generalize clkG B = G at *
  obtain ⟨n, hn1⟩ : ∃ n, n = fs.length := ⟨_, rfl⟩
  rw [← hn1] at hn HD d1 d2 Hval Hf hh
  rw [← hn1]
  clear hn1
  have Hhh := Lib.hid hh
  have hmod : (n : Int) % (p : Int) = 0 := by rw [hh, Int.natCast_mul, Int.mul_emod_right]
  have hquo : (n : Int) / (p : Int) = (h : Int) := by rw [hh, Int.natCast_mul, Int.mul_ediv_cancel_left _ (by omega)]
  have dne : ((p : Int) = 0) = False := eq_false (by omega)
  have dne2 : ((p : Int) == 0) = false := by rw [beq_eq_false_iff_ne]; omega
  have hpn : p * h ≤ 52 := by omega
  have hh52 : h ≤ 52 := by have := Nat.mul_le_mul_right h hp1; omega
  clear hh
  go_enter Try.func25, Try.ntmps25
  go_wp2_with (first | (go_at_call 60; (with_reducible refine HD.out.mono ?_); rintro e w1 ⟨rfl, hdr⟩; have Hdr := Lib.hid hdr; clear hdr) | (go_at_call 46; (with_reducible refine (HIn.out _).mono ?_); rintro e w3 ⟨rfl, rfl⟩) | (at_make; refine wpList_make_full _ rfl _ _ 25 rfl w1.heap.size 2 i0 (.int .i64 0) 1 (by kernel_rfl) hi hz0 hz1 .i64 .i64 p p p rfl rfl rfl rfl (by rw [hz2]; omega) (by unfold maxLen; omega) (Nat.le_refl _) ?_; intro w2 hown hgrow; have Hb2 := Lib.hid ((Hdr.out.below w.heap.size).grown hgrow (Hdr.out.below w.heap.size).size (by simp)); have Hown := Lib.hid hown; clear hown hgrow))
  have hz1' : w.heap.size ≤ w1.heap.size := (Hdr.out.below w.heap.size).size
  go_loopw [9] (fun i wr => ∃ k : Nat, k ≤ p ∧ i = .int .i64 (k : Int) ∧ Hid (wr.ownsRow w1.heap.size 2 1 (.slice (some ⟨w1.heap.size, 0, none⟩) p p) p ((filled p (fun _ => (h : Int)) k).map (Value.int .i64))) ∧ Hid (Below w.heap.size w wr)) (fun i _ => p - (intOf i).toNat)
  case atStart =>
    refine ⟨0, Nat.zero_le _, rfl, Lib.hid ?_, Hb2⟩
    have h0 := Hown.out
    have e : (madeCells (Value.int .i64 0).cells (p * 1)).toList = (filled p (fun _ => (h : Int)) 0).map (Value.int .i64) := by
      rw [filled_zero, Nat.mul_one, List.map_replicate]
      exact made1 _ p
    rw [e] at h0
    exact h0
  case round =>
    obtain ⟨k, hk, rfl, hown, hb⟩ := hrel
    have hsz := hb.out.size
    by_cases hlt : k < p
    · have c2 : wr.cell? ⟨w1.heap.size, k, none⟩ = some (.int .i64 0) := by
        rw [hown.out.cellAt k (by omega), List.getElem?_map, filled_at p _ k hlt]; rfl
      have c3 := hown.out.frozenAt k
      obtain ⟨hs1, _⟩ := hown.out.stored k (.int .i64 (h : Int))
      rw [← List.map_set, filled_set p (fun _ => (h : Int)) k hlt] at hs1
      have Hs1 := Lib.hid hs1
      clear hs1
      go_wp2
      go_roundw
      case rel => exact ⟨k + 1, by omega, by go_num, Hs1, Lib.hid (hb.out.setCell hz1' _)⟩
      case measure => simp [intOf]; omega
    · obtain rfl : k = p := by omega
      have HSw : Hid (Sw (Value.int .i64) 0 wr (.slice (some ⟨w1.heap.size, 0, none⟩) k k) (S 0).1 w1.heap.size wr.heap.size) := Lib.hid (by
        have h0 := hown.out
        rw [filled_done] at h0
        have h1 := Sw.of_owns (d := (0 : Int)) h0 (tab_len _ _)
        rw [HS01.out, show List.replicate k (h : Int) = tab k (fun _ => (h : Int)) from (by unfold tab; rw [List.map_const', List.length_range])]
        exact h1)
      have hsz0 := hb.out.size
      clear hown Hown
      have hk1 : (k : Int) - 1 = ((k - 1 : Nat) : Int) := by omega
      obtain ⟨W, hW⟩ : ∃ W, W = wr := ⟨_, rfl⟩
      rw [← hW] at HSw hb hsz0 ⊢
      clear hW
      go_wp2
      clear hk1
      go_loopw [10, 11] (fun t i wr => ∃ j : Nat, t = .int .i64 (j : Int) ∧ i = .int .i64 (((S j).2 : Nat) : Int) ∧ Hid (I j) ∧ Hid (G (k * h + 1 - j) j = N) ∧ Hid (Sw (Value.int .i64) 0 wr (.slice (some ⟨w1.heap.size, 0, none⟩) k k) (S j).1 w1.heap.size W.heap.size) ∧ Hid (Below w.heap.size w wr)) (fun t _ _ => n - (intOf t).toNat)
      case atStart => exact ⟨0, rfl, by rw [HS02.out], HI0, HN0, HSw, hb⟩
      case round =>
        obtain ⟨j, rfl, rfl, hI, hG, hSw, hbw⟩ := hrel
        have hjle := Hle.out j hI.out
        have hIa := HIa.out j hI.out
        have hIl := HIl.out j hI.out
        have hbd := (HIb.out j hI.out) _ hIa
        obtain ⟨f, hf9⟩ : ∃ f, k * h + 1 - j = f + 1 := ⟨k * h - j, by omega⟩
        rw [hf9] at hG
        have hcell := hSw.out.open' (S j).2 (by rw [hIl]; exact hIa)
        obtain ⟨bl, ol, ebo, hlo, hbl, c1, c2⟩ := hcell
        obtain ⟨rfl, rfl⟩ : bl = w1.heap.size ∧ ol = 0 := by cases ebo; exact ⟨rfl, rfl⟩
        clear ebo
        have hBj := HB.out j
        by_cases hx : 0 < (S j).1.getD (S j).2 0
        · rw [decide_eq_true hx] at hBj
          have HI2 := Lib.hid (HIs.out j hI.out hBj)
          have hjlt := Hlt.out j hI.out hBj
          have hjn : j < n := by have := Hhh.out; omega
          have HG2 := Lib.hid (show G (k * h + 1 - (j + 1)) (j + 1) = N by rw [show k * h + 1 - (j + 1) = f by omega, ← HGy.out f j hBj]; exact hG.out)
          obtain ⟨z, hz⟩ : ∃ z : Nat, (S j).1.getD (S j).2 0 = (z : Int) + 1 := ⟨((S j).1.getD (S j).2 0).toNat - 1, by omega⟩
          obtain ⟨hq, hzh⟩ := Hidx.out j z hI.out hz
          have hs1 := HS1.out j
          have hs2 := HS2.out j
          rw [hz, show (z : Int) + 1 - 1 = (z : Int) by omega] at hs1 hs2
          rw [Int.toNat_natCast] at hs2
          rw [hz] at c1
          have hst := hSw.out.store (S j).2 (by rw [hIl]; exact hIa) (z : Int)
          rw [← hs1] at hst
          rw [Nat.zero_add] at c1 c2 hst
          have Hst := Lib.hid hst
          obtain ⟨Z, hZ⟩ : ∃ Z, Z = z * k := ⟨_, rfl⟩
          rw [← hZ] at hq hs2
          have hZI : (z : Int) * (k : Int) = (Z : Int) := by rw [hZ, Int.natCast_mul]
          have hqn : Z + (S j).2 < n := by have := Hhh.out; omega
          obtain ⟨y0, y1⟩ := Hval.out (Z + (S j).2) hqn
          obtain ⟨Y, hY⟩ : ∃ Y : Nat, fs.getD (Z + (S j).2) 0 = (Y : Int) := ⟨(fs.getD (Z + (S j).2) 0).toNat, by omega⟩
          rw [hY, Int.toNat_natCast] at hs2
          have Hs2 := Lib.hid hs2
          obtain ⟨hcap, bd, od, rfl, hbs, hdc⟩ := Hf.out (by omega)
          have hdc2 := hdc (Z + (S j).2) hqn
          rw [hY] at hdc2
          have c3 : (wr.setCell ⟨w1.heap.size, (S j).2, none⟩ (.int .i64 (z : Int))).cell? ⟨w1.heap.size, (S j).2, none⟩ = some (.int .i64 (z : Int)) := World.cell?_setCell_same _ _ _ c1
          have c4 : (wr.setCell ⟨w1.heap.size, (S j).2, none⟩ (.int .i64 (z : Int))).cell? ⟨bd, od + (Z + (S j).2), none⟩ = some (.int .i64 (Y : Int)) := (World.cell?_setCell_other _ _ _ _ (fun h => by injection h; omega)).trans (cell_keep hbw.out hdc2)
          have hym : (Y : Int) % (k : Int) = ((Y % k : Nat) : Int) := rfl
          have hY52 : Y ≤ 52 := by omega
          have hb2 := Lib.hid (hbw.out.setCell (p := ⟨w1.heap.size, (S j).2, none⟩) hz1' (Value.int .i64 (z : Int)))
          clear hs1 hs2 hst hdc hdc2 hY y0 y1 hZ hz hx hBj hbd hf9
          have Hym := Lib.hid hym
          generalize hA : (S j).2 = A at *
          have HA := Lib.hid hA
          clear hA
          generalize Y % k = A2 at *
          have HJ : Hid (Below w.heap.size w (wr.setCell ⟨w1.heap.size, A, none⟩ (.int .i64 (z : Int)))) := hb2
          go_wp2
          go_roundw
          case rel => exact ⟨j + 1, by go_num, by rw [Hs2.out]; first | rfl | rw [Hym.out], HI2, HG2, Hst, HJ⟩
          case measure => simp [intOf]; omega
        · rw [decide_eq_false hx] at hBj
          have HNj := Lib.hid (show N = j by rw [← hG.out]; exact HGn.out f j hBj)
          have hx0 : (S j).1.getD (S j).2 0 = 0 := by omega
          rw [hx0] at c1
          rw [Nat.zero_add] at c1 c2
          clear hBj hbd hf9 hx0 hx
          generalize (S j).2 = A at *
          go_wp2
          go_ret3
          exact ⟨by rw [HNj.out]; simp, hbw.out⟩
end Go.Proofs.Ytglmahgbdgbbpaa
