/- Hexadecimal digits of bits, both texts. -/
import Derived.Test.YtcoehcoohppbjacCa
import Derived.Test.YtcoehcoohppbjacNum
import Derived.Test.YtcoehcoohppbjacFlb
import Derived.Maps.AppendAt
set_option linter.unusedVariables false
namespace Go.Proofs.Ytcoehcoohppbjac
open Go.RowKit Fl
def hexT : List UInt8 := [48, 49, 50, 51, 52, 53, 54, 55, 56, 57, 97, 98, 99, 100, 101, 102]
/-- the last k digits -/
def hexL (b : Nat) : Nat → List UInt8
  | 0 => []
  | k + 1 => hexT.getD (b / 16 ^ k % 16) 0 :: hexL b k
theorem hexL_len (b k : Nat) : (hexL b k).length = k := by
  induction k with
  | zero => rfl
  | succ k ih => rw [hexL, List.length_cons, ih]
def hexS (b : Nat) : ByteArray := ⟨(hexL b 8).toArray⟩
/-- the row of the program after k rounds -/
def rowX (b k : Nat) : List Int := List.replicate (8 - k) 0 ++ bsI (hexL b k)
theorem rowX_len (b k : Nat) (h : k ≤ 8) : (rowX b k).length = 8 := by unfold rowX; rw [List.length_append, List.length_replicate, bsI_len, hexL_len]; omega
theorem rowX_set (b k : Nat) (h : k < 8) : (rowX b k).set (7 - k) ((hexT.getD (b / 16 ^ k % 16) 0).toNat : Int) = rowX b (k + 1) := by
  unfold rowX
  have e : 8 - k = (8 - (k + 1)) + 1 := by omega
  have e2 : 7 - k = 8 - (k + 1) := by omega
  rw [e, List.replicate_succ', List.append_assoc, e2, List.set_append_right _ _ (by simp), List.length_replicate, Nat.sub_self]
  rfl
theorem ret2t {s t : ByteArray} {a b : Bool} (h : s = t) (g : a = b) : Ending.returned (.tuple #[.string s, .bool a]) = .returned (.tuple #[.string t, .bool b]) := by rw [h, g]
theorem ret_str7 {s t : ByteArray} (h : s = t) : Ending.returned (.string s) = .returned (.string t) := by rw [h]
theorem hexAt (M : Nat) (h : M < 16) (h' : M < (⟨#[48, 49, 50, 51, 52, 53, 54, 55, 56, 57, 97, 98, 99, 100, 101, 102]⟩ : ByteArray).size) : (⟨#[48, 49, 50, 51, 52, 53, 54, 55, 56, 57, 97, 98, 99, 100, 101, 102]⟩ : ByteArray)[M]'h' = hexT.getD M 0 := by
  rw [getD_lt hexT 0 M h]
  rfl
theorem hexL_get (b k : Nat) (hk : k < 8) : (hexL b 8).getD k 0 = hexT.getD (b / 16 ^ (7 - k) % 16) 0 := by
  rcases (by omega : k = 0 ∨ k = 1 ∨ k = 2 ∨ k = 3 ∨ k = 4 ∨ k = 5 ∨ k = 6 ∨ k = 7) with rfl | rfl | rfl | rfl | rfl | rfl | rfl | rfl <;> rfl
theorem wpList_shr {P : Program} {w : World} {ops : Array Oper} {rest : List Oper} {o : Oper} {a : Act} {Q : Exit → Act → World → Prop} (hgd : Region.wanted o (yielded ops a.tmps) = true) (T yT : TypeId) (x y : Operand) (ho : o.op = .binOp .shr T x y yT) (a0 : Int) (n : Nat) (hx : a.eval x = .int .i64 a0) (hy : a.eval y = .int .u64 (n : Int)) (hn : n ≤ 62) (q : Int) (hq : a0.fdiv (2 ^ n) = q)
    (h : wpList P ops Q rest (a.put o.dst (.int .i64 q)) w) : wpList P ops Q (o :: rest) a w := by
  refine wpList_wanted hgd fun K hK => ?_
  unfold Oper.wp
  have he : ((eqGuard .shr T x y (.int .i64 a0) (.int .u64 (n : Int))).run P w) = .ok () w := rfl
  have hr : (binOp .shr T (.int .i64 a0) (.int .u64 (n : Int))).run P w = .ok (.int .i64 q) w := by
    subst hq
    show (Op.shift .shr .i64 a0 .u64 (n : Int)).run P w = _
    unfold Op.shift
    rw [if_neg (by omega)]
    have e : min (n : Int).toNat IntKind.i64.bits = n := by rw [Int.toNat_natCast]; exact Nat.min_eq_left (Nat.le_trans hn (by decide))
    simp only [e]
    rfl
  simp [execOp, ho, hx, hy, he, hr, Result.andThen]
  exact hK _ _ h
theorem run_index_hex (M : Nat) (hm : M < 16) (W : World) :
    (Instr.index 9 (.string ⟨#[48, 49, 50, 51, 52, 53, 54, 55, 56, 57, 97, 98, 99, 100, 101, 102]⟩) (.int .i64 (M : Int))).run Try.prog W = .ok (.int .u8 ((hexT.getD M 0).toNat : Int)) W := by
  have e := hexAt M hm hm
  have h0 : (0 : Int) ≤ (M : Int) := by omega
  simp [Instr.index, run_underlying Try.underlying9, asIntOf, h0, hm, e, go_sem]
theorem and15 (q : Nat) (h : q < 4294967296) : bits .and .i64 (q : Int) 15 = ((q % 16 : Nat) : Int) := by
  have := i64_and_nat q 15 (by omega) (by omega)
  rw [Nat.and_two_pow_sub_one_eq_mod q 4] at this
  exact this
theorem cn_lt (u : Nat) (hu : u < 4294967296) : cn .f32 u < 4294967296 := by
  unfold cn
  split
  · decide
  · exact hu
set_option maxRecDepth 100000 in
set_option maxHeartbeats 2000000 in
theorem bitsText_any (u : Nat) (hu : u < 4294967296) (w : World) :
    Calls Try.prog 23 #[.float .f32 u] w fun e w' => e = .returned (.tuple #[.string (hexS (cn .f32 u)), .bool true]) ∧ Below w.heap.size w w' := by
  obtain ⟨i0, hi, hz0, hz1, hz2⟩ := info_parts (show (Try.prog.info? 5).map (fun i => (i.zero, i.size, i.bytes)) = some (some (.int .u8 0), 1, 1) by kernel_rfl)
  have H := Lib.hid (bitsOf_any u hu w)
  have hb : cn .f32 u < 4294967296 := cn_lt u hu
  generalize cn .f32 u = b at *
  go_enter Try.func23, Try.ntmps23
  go_wp2_with (first | (go_at_call 40; refine (H.out).mono ?_; rintro e w0 ⟨rfl, nd, rfl⟩) | (at_make; refine wpList_make_full _ rfl _ _ 61 rfl w.heap.size 5 i0 (Value.int .u8 0) 1 (by kernel_rfl) hi hz0 hz1 .i64 .i64 8 8 8 rfl rfl rfl rfl (by rw [hz2]; omega) (by unfold maxLen; omega) (Nat.le_refl _) ?_; intro w1 hown hgrow))
  have hbel : Below w.heap.size w w1 := (below_drewN (Below.refl _ w) nd).grown hgrow (Nat.le_refl _) (by simp)
  replace hown : w1.ownsRow w.heap.size 5 1 (.slice (some ⟨w.heap.size, 0, none⟩) 8 8) 8 (madeCells (Value.int .u8 0).cells (8 * 1)).toList := hown
  have hs0 : Sw (Value.int .u8) 0 w1 (.slice (some ⟨w.heap.size, 0, none⟩) 8 8) (rowX b 0) w.heap.size (w.heap.size + 1) := by
    refine ⟨some ⟨w.heap.size, 0, none⟩, 8, by rw [rowX_len b 0 (by omega)], fun h0 => ⟨by rw [rowX_len b 0 (by omega)]; exact Nat.le_refl _, w.heap.size, 0, rfl, Nat.le_refl _, Nat.lt_succ_self _, (hown.lt _ rfl).2, fun i hi => ⟨?_, ?_⟩⟩⟩
    · rw [rowX_len b 0 (by omega)] at hi
      rw [Nat.zero_add, hown.cellAt i (by omega), Nat.mul_one, show (Value.int .u8 0).cells = #[Value.int .u8 0] from rfl, made1]
      rcases (by omega : i = 0 ∨ i = 1 ∨ i = 2 ∨ i = 3 ∨ i = 4 ∨ i = 5 ∨ i = 6 ∨ i = 7) with rfl | rfl | rfl | rfl | rfl | rfl | rfl | rfl <;> rfl
    · rw [Nat.zero_add]; exact hown.frozenAt i
  have Hown := Lib.hid hs0
  have hsz1 : w.heap.size < w1.heap.size := (hown.lt _ rfl).2
  clear hown hs0 hgrow
  go_loopw [4, 12] (fun q i wr => ∃ k : Nat, k ≤ 8 ∧ i = .int .i64 (k : Int) ∧ q = .int .i64 ((b / 16 ^ k : Nat) : Int) ∧ Hid (Sw (Value.int .u8) 0 wr (.slice (some ⟨w.heap.size, 0, none⟩) 8 8) (rowX b k) w.heap.size (w.heap.size + 1)) ∧ Hid (Below w.heap.size w wr)) (fun _ i _ => 8 - (intOf i).toNat)
  case atStart => exact ⟨0, Nat.zero_le _, rfl, by rw [Nat.pow_zero, Nat.div_one], Hown, Lib.hid hbel⟩
  case round =>
    obtain ⟨k, hk, rfl, rfl, hs, hbl⟩ := hrel
    by_cases hlt : k < 8
    · have hq := Nat.div_le_self b (16 ^ k)
      have HQ := Lib.hid (show b / 16 ^ (k + 1) = b / 16 ^ k / 16 by rw [Nat.pow_succ, Nat.div_div_eq_div_mul])
      have HR := Lib.hid (rowX_set b k hlt)
      generalize b / 16 ^ k = q at *
      have e1 : Int.tmod (q : Int) 16 = ((q % 16 : Nat) : Int) := by rw [Int.tmod_eq_emod_of_nonneg (by omega)]; omega
      have e2 : Int.tdiv (q : Int) 16 = ((q / 16 : Nat) : Int) := by rw [Int.tdiv_eq_ediv_of_nonneg (by omega)]; omega
      have hm1 : q % 16 < 16 := Nat.mod_lt _ (by decide)
      have hq1 : q / 16 ≤ q := Nat.div_le_self _ _
      generalize q % 16 = M at *
      have hMi : (M : Int) < 16 := by omega
      have hMj : (0 : Int) ≤ (M : Int) ∧ (M : Int) < 16 := ⟨by omega, by omega⟩
      have hMn : ((M : Int)).toNat = M := by omega
      generalize q / 16 = q2 at *
      have e7 : (7 : Int) - (k : Int) = ((7 - k : Nat) : Int) := by omega
      have hx := hs.out
      obtain ⟨b1, off1, ee, q1, q2', q3, q4⟩ := hx.open' (7 - k) (by rw [rowX_len b k hk]; omega)
      cases ee
      rw [Nat.zero_add] at q3 q4
      generalize List.getD _ (7 - k) _ = old at q3
      have Hst := hx.store (7 - k) (by rw [rowX_len b k hk]; omega) ((hexT.getD M 0).toNat : Int)
      rw [HR.out] at Hst
      simp only [Nat.zero_add] at Hst
      have HS := Lib.hid Hst
      have Hb3 : Hid (Below w.heap.size w (wr.setCell ⟨w.heap.size, 7 - k, none⟩ (.int .u8 ((hexT.getD M 0).toNat : Int)))) := Lib.hid (hbl.out.setCell (Nat.le_refl _) _)
      clear hx Hst
      go_wp2
      all_goals
        rw [hexAt M hm1 _]
        refine ⟨⟨k + 1, by omega, by go_num, by rw [HQ.out], HS, Hb3⟩, ?_⟩
        simp [intOf]; omega
    · obtain rfl : k = 8 := by omega
      have hs8 := hs.out
      have HE := Lib.hid (show strOfNums (rowX b 8) = hexS b from strOf_bsI (hexL b 8))
      have hconv : ∀ dst, Try.prog.underlying dst = some .string → (convert 61 dst (.slice (some ⟨w.heap.size, 0, none⟩) 8 8)).run Try.prog wr = .ok (.string (strOfNums (rowX b 8))) wr :=
        run_convert_bytes_arg wr 61 5 Try.underlying61 Try.underlying5 w.heap.size 0 8 8 (rowX b 8) (rowX_len b 8 (Nat.le_refl _)) (fun i hi => by
          obtain ⟨b1, off1, ee, q1, q2', q3, q4⟩ := hs8.open' i (by rw [rowX_len b 8 (Nat.le_refl _)]; exact hi)
          cases ee
          exact q3)
      rw [HE.out] at hconv
      clear hs hs8
      have HRR := Lib.hid (show hexS b = hexS b from rfl)
      generalize hR : hexS b = R at hconv
      replace HRR := Lib.hid hR
      clear hR
      go_wp2
      go_ret2
      exact ⟨ret2t HRR.out.symm rfl, hbl.out⟩
set_option maxRecDepth 100000 in
set_option maxHeartbeats 2000000 in
theorem hex_spec (u : Nat) (hu : u < 4294967296) (w : World) :
    Calls Try.prog 38 #[.float .f32 u] w fun e w' => e = .returned (.string (hexS (cn .f32 u))) ∧ Below w.heap.size w w' := by
  obtain ⟨i0, hi, hz0, hz1, hz2⟩ := info_parts (show (Try.prog.info? 5).map (fun i => (i.zero, i.size, i.bytes)) = some (some (.int .u8 0), 1, 1) by kernel_rfl)
  have H := Lib.hid (l01Bits_any u hu w)
  have hb : cn .f32 u < 4294967296 := cn_lt u hu
  generalize cn .f32 u = b at *
  go_enter Try.func38, Try.ntmps38
  go_wp2_with (go_at_call 53; refine (H.out).mono ?_; rintro e w0 ⟨rfl, rfl⟩)
  have Hget := Lib.hid (hexL_get b)
  have Htk := Lib.hid (fun k (hk : k < 8) => show bsI ((hexL b 8).take (k + 1)) = bsI ((hexL b 8).take k) ++ [((hexT.getD (b / 16 ^ (7 - k) % 16) 0).toNat : Int)] by
    rw [← hexL_get b k hk, List.take_succ_eq_append_getElem (by rw [hexL_len]; exact hk), getD_lt _ 0 k (by rw [hexL_len]; exact hk)]
    unfold bsI
    rw [List.map_append]
    rfl)
  go_loopw [4, 5] (fun o i wr => ∃ k : Nat, k ≤ 8 ∧ i = .int .i64 (28 - 4 * (k : Int)) ∧ Hid (wr.ownsRow w.heap.size 5 1 o k ((bsI ((hexL b 8).take k)).map (Value.int .u8))) ∧ Hid (Below w.heap.size w wr)) (fun _ i _ => (intOf i + 4).toNat)
  case atStart => exact ⟨0, Nat.zero_le _, rfl, Lib.hid (World.ownsRow_lit w #[] 0 (Nat.le_refl _) (by unfold maxLen; omega) rfl), Lib.hid ((Below.refl _ w).alloc (Nat.le_refl _) _)⟩
  case round =>
    obtain ⟨k, hk, rfl, Ho, Hb⟩ := hrel
    have hbz := Hb.out.size
    rcases (by omega : k = 0 ∨ k = 1 ∨ k = 2 ∨ k = 3 ∨ k = 4 ∨ k = 5 ∨ k = 6 ∨ k = 7 ∨ k = 8) with rfl | rfl | rfl | rfl | rfl | rfl | rfl | rfl | rfl
    · rw [show (28 : Int) - 4 * ((0 : Nat) : Int) = 28 from rfl]
      obtain ⟨q, hqd⟩ : ∃ q, q = b / 268435456 := ⟨_, rfl⟩
      have hq : q < 4294967296 := by rw [hqd]; exact Nat.lt_of_le_of_lt (Nat.div_le_self _ _) hb
      have e1 : (b : Int).fdiv (2 ^ 28) = (q : Int) := by rw [Int.fdiv_eq_ediv_of_nonneg _ (by decide)]; omega
      have E1 := Lib.hid e1
      clear e1
      have Hk := Lib.hid (show bsI ((hexL b 8).take (0 + 1)) = bsI ((hexL b 8).take 0) ++ [((hexT.getD (q % 16) 0).toNat : Int)] by rw [hqd]; exact Htk.out 0 (by omega))
      clear hqd
      have e2 := and15 q hq
      have hm : q % 16 < 16 := Nat.mod_lt _ (by decide)
      have hxa := fun W => run_index_hex (q % 16) hm W
      have Hbe := Lib.hid (fun v2 w2 (hh : World.ownsRow w2 w.heap.size 5 1 v2 (0 + 1) ((bsI ((hexL b 8).take 0)).map (Value.int .u8) ++ [.int .u8 ((hexT.getD (q % 16) 0).toNat : Int)])) => (show World.ownsRow w2 w.heap.size 5 1 v2 (0 + 1) ((bsI ((hexL b 8).take (0 + 1))).map (Value.int .u8)) by rw [Hk.out, List.map_append]; exact hh))
      generalize hexT.getD (q % 16) 0 = D at *
      generalize q % 16 = M at *
      have hMi : (M : Int) < 16 := by omega
      have hMj : (0 : Int) ≤ (M : Int) ∧ (M : Int) < 16 := ⟨by omega, by omega⟩
      have hMn : ((M : Int)).toNat = M := by omega
      clear Htk Hget
      go_wp2_with (first | (refine wpList_shr rfl _ _ _ _ rfl (b : Int) 28 rfl rfl (by decide) (q : Int) E1.out ?_) | (at_builtin; refine wpList_append_own _ rfl _ _ 61 rfl w.heap.size 5 i0 (.int .u8 0) 1 1 (by kernel_rfl) hi hz0 hz1 hz2 rfl (by decide) _ _ _ rfl (Ho.out.alloc _) ⟨wr.heap.size, 0, none⟩ 1 1 [.int .u8 (D.toNat : Int)] rfl rfl (cell_one_new _ _ _) (by intro u hu; rw [List.mem_singleton] at hu; subst hu; rfl) (by unfold maxLen; omega) (by omega) (by simp; omega) ?_; intro v2 w2 hown2 hgrow2 _; have HO := Lib.hid (Hbe.out v2 w2 hown2); have HB : Hid (Below w.heap.size w w2) := Lib.hid ((Hb.out.alloc (by omega) _).grown hgrow2 (by simp; omega) (fun b hb => (Ho.out.lt b hb).1)); clear hown2 hgrow2))
      all_goals
        refine ⟨⟨0 + 1, by omega, by go_num, HO, HB⟩, ?_⟩
        simp [intOf]
    · rw [show (28 : Int) - 4 * ((1 : Nat) : Int) = 24 from rfl]
      obtain ⟨q, hqd⟩ : ∃ q, q = b / 16777216 := ⟨_, rfl⟩
      have hq : q < 4294967296 := by rw [hqd]; exact Nat.lt_of_le_of_lt (Nat.div_le_self _ _) hb
      have e1 : (b : Int).fdiv (2 ^ 24) = (q : Int) := by rw [Int.fdiv_eq_ediv_of_nonneg _ (by decide)]; omega
      have E1 := Lib.hid e1
      clear e1
      have Hk := Lib.hid (show bsI ((hexL b 8).take (1 + 1)) = bsI ((hexL b 8).take 1) ++ [((hexT.getD (q % 16) 0).toNat : Int)] by rw [hqd]; exact Htk.out 1 (by omega))
      clear hqd
      have e2 := and15 q hq
      have hm : q % 16 < 16 := Nat.mod_lt _ (by decide)
      have hxa := fun W => run_index_hex (q % 16) hm W
      have Hbe := Lib.hid (fun v2 w2 (hh : World.ownsRow w2 w.heap.size 5 1 v2 (1 + 1) ((bsI ((hexL b 8).take 1)).map (Value.int .u8) ++ [.int .u8 ((hexT.getD (q % 16) 0).toNat : Int)])) => (show World.ownsRow w2 w.heap.size 5 1 v2 (1 + 1) ((bsI ((hexL b 8).take (1 + 1))).map (Value.int .u8)) by rw [Hk.out, List.map_append]; exact hh))
      generalize hexT.getD (q % 16) 0 = D at *
      generalize q % 16 = M at *
      have hMi : (M : Int) < 16 := by omega
      have hMj : (0 : Int) ≤ (M : Int) ∧ (M : Int) < 16 := ⟨by omega, by omega⟩
      have hMn : ((M : Int)).toNat = M := by omega
      clear Htk Hget
      go_wp2_with (first | (refine wpList_shr rfl _ _ _ _ rfl (b : Int) 24 rfl rfl (by decide) (q : Int) E1.out ?_) | (at_builtin; refine wpList_append_own _ rfl _ _ 61 rfl w.heap.size 5 i0 (.int .u8 0) 1 1 (by kernel_rfl) hi hz0 hz1 hz2 rfl (by decide) _ _ _ rfl (Ho.out.alloc _) ⟨wr.heap.size, 0, none⟩ 1 1 [.int .u8 (D.toNat : Int)] rfl rfl (cell_one_new _ _ _) (by intro u hu; rw [List.mem_singleton] at hu; subst hu; rfl) (by unfold maxLen; omega) (by omega) (by simp; omega) ?_; intro v2 w2 hown2 hgrow2 _; have HO := Lib.hid (Hbe.out v2 w2 hown2); have HB : Hid (Below w.heap.size w w2) := Lib.hid ((Hb.out.alloc (by omega) _).grown hgrow2 (by simp; omega) (fun b hb => (Ho.out.lt b hb).1)); clear hown2 hgrow2))
      all_goals
        refine ⟨⟨1 + 1, by omega, by go_num, HO, HB⟩, ?_⟩
        simp [intOf]
    · rw [show (28 : Int) - 4 * ((2 : Nat) : Int) = 20 from rfl]
      obtain ⟨q, hqd⟩ : ∃ q, q = b / 1048576 := ⟨_, rfl⟩
      have hq : q < 4294967296 := by rw [hqd]; exact Nat.lt_of_le_of_lt (Nat.div_le_self _ _) hb
      have e1 : (b : Int).fdiv (2 ^ 20) = (q : Int) := by rw [Int.fdiv_eq_ediv_of_nonneg _ (by decide)]; omega
      have E1 := Lib.hid e1
      clear e1
      have Hk := Lib.hid (show bsI ((hexL b 8).take (2 + 1)) = bsI ((hexL b 8).take 2) ++ [((hexT.getD (q % 16) 0).toNat : Int)] by rw [hqd]; exact Htk.out 2 (by omega))
      clear hqd
      have e2 := and15 q hq
      have hm : q % 16 < 16 := Nat.mod_lt _ (by decide)
      have hxa := fun W => run_index_hex (q % 16) hm W
      have Hbe := Lib.hid (fun v2 w2 (hh : World.ownsRow w2 w.heap.size 5 1 v2 (2 + 1) ((bsI ((hexL b 8).take 2)).map (Value.int .u8) ++ [.int .u8 ((hexT.getD (q % 16) 0).toNat : Int)])) => (show World.ownsRow w2 w.heap.size 5 1 v2 (2 + 1) ((bsI ((hexL b 8).take (2 + 1))).map (Value.int .u8)) by rw [Hk.out, List.map_append]; exact hh))
      generalize hexT.getD (q % 16) 0 = D at *
      generalize q % 16 = M at *
      have hMi : (M : Int) < 16 := by omega
      have hMj : (0 : Int) ≤ (M : Int) ∧ (M : Int) < 16 := ⟨by omega, by omega⟩
      have hMn : ((M : Int)).toNat = M := by omega
      clear Htk Hget
      go_wp2_with (first | (refine wpList_shr rfl _ _ _ _ rfl (b : Int) 20 rfl rfl (by decide) (q : Int) E1.out ?_) | (at_builtin; refine wpList_append_own _ rfl _ _ 61 rfl w.heap.size 5 i0 (.int .u8 0) 1 1 (by kernel_rfl) hi hz0 hz1 hz2 rfl (by decide) _ _ _ rfl (Ho.out.alloc _) ⟨wr.heap.size, 0, none⟩ 1 1 [.int .u8 (D.toNat : Int)] rfl rfl (cell_one_new _ _ _) (by intro u hu; rw [List.mem_singleton] at hu; subst hu; rfl) (by unfold maxLen; omega) (by omega) (by simp; omega) ?_; intro v2 w2 hown2 hgrow2 _; have HO := Lib.hid (Hbe.out v2 w2 hown2); have HB : Hid (Below w.heap.size w w2) := Lib.hid ((Hb.out.alloc (by omega) _).grown hgrow2 (by simp; omega) (fun b hb => (Ho.out.lt b hb).1)); clear hown2 hgrow2))
      all_goals
        refine ⟨⟨2 + 1, by omega, by go_num, HO, HB⟩, ?_⟩
        simp [intOf]
    · rw [show (28 : Int) - 4 * ((3 : Nat) : Int) = 16 from rfl]
      obtain ⟨q, hqd⟩ : ∃ q, q = b / 65536 := ⟨_, rfl⟩
      have hq : q < 4294967296 := by rw [hqd]; exact Nat.lt_of_le_of_lt (Nat.div_le_self _ _) hb
      have e1 : (b : Int).fdiv (2 ^ 16) = (q : Int) := by rw [Int.fdiv_eq_ediv_of_nonneg _ (by decide)]; omega
      have E1 := Lib.hid e1
      clear e1
      have Hk := Lib.hid (show bsI ((hexL b 8).take (3 + 1)) = bsI ((hexL b 8).take 3) ++ [((hexT.getD (q % 16) 0).toNat : Int)] by rw [hqd]; exact Htk.out 3 (by omega))
      clear hqd
      have e2 := and15 q hq
      have hm : q % 16 < 16 := Nat.mod_lt _ (by decide)
      have hxa := fun W => run_index_hex (q % 16) hm W
      have Hbe := Lib.hid (fun v2 w2 (hh : World.ownsRow w2 w.heap.size 5 1 v2 (3 + 1) ((bsI ((hexL b 8).take 3)).map (Value.int .u8) ++ [.int .u8 ((hexT.getD (q % 16) 0).toNat : Int)])) => (show World.ownsRow w2 w.heap.size 5 1 v2 (3 + 1) ((bsI ((hexL b 8).take (3 + 1))).map (Value.int .u8)) by rw [Hk.out, List.map_append]; exact hh))
      generalize hexT.getD (q % 16) 0 = D at *
      generalize q % 16 = M at *
      have hMi : (M : Int) < 16 := by omega
      have hMj : (0 : Int) ≤ (M : Int) ∧ (M : Int) < 16 := ⟨by omega, by omega⟩
      have hMn : ((M : Int)).toNat = M := by omega
      clear Htk Hget
      go_wp2_with (first | (refine wpList_shr rfl _ _ _ _ rfl (b : Int) 16 rfl rfl (by decide) (q : Int) E1.out ?_) | (at_builtin; refine wpList_append_own _ rfl _ _ 61 rfl w.heap.size 5 i0 (.int .u8 0) 1 1 (by kernel_rfl) hi hz0 hz1 hz2 rfl (by decide) _ _ _ rfl (Ho.out.alloc _) ⟨wr.heap.size, 0, none⟩ 1 1 [.int .u8 (D.toNat : Int)] rfl rfl (cell_one_new _ _ _) (by intro u hu; rw [List.mem_singleton] at hu; subst hu; rfl) (by unfold maxLen; omega) (by omega) (by simp; omega) ?_; intro v2 w2 hown2 hgrow2 _; have HO := Lib.hid (Hbe.out v2 w2 hown2); have HB : Hid (Below w.heap.size w w2) := Lib.hid ((Hb.out.alloc (by omega) _).grown hgrow2 (by simp; omega) (fun b hb => (Ho.out.lt b hb).1)); clear hown2 hgrow2))
      all_goals
        refine ⟨⟨3 + 1, by omega, by go_num, HO, HB⟩, ?_⟩
        simp [intOf]
    · rw [show (28 : Int) - 4 * ((4 : Nat) : Int) = 12 from rfl]
      obtain ⟨q, hqd⟩ : ∃ q, q = b / 4096 := ⟨_, rfl⟩
      have hq : q < 4294967296 := by rw [hqd]; exact Nat.lt_of_le_of_lt (Nat.div_le_self _ _) hb
      have e1 : (b : Int).fdiv (2 ^ 12) = (q : Int) := by rw [Int.fdiv_eq_ediv_of_nonneg _ (by decide)]; omega
      have E1 := Lib.hid e1
      clear e1
      have Hk := Lib.hid (show bsI ((hexL b 8).take (4 + 1)) = bsI ((hexL b 8).take 4) ++ [((hexT.getD (q % 16) 0).toNat : Int)] by rw [hqd]; exact Htk.out 4 (by omega))
      clear hqd
      have e2 := and15 q hq
      have hm : q % 16 < 16 := Nat.mod_lt _ (by decide)
      have hxa := fun W => run_index_hex (q % 16) hm W
      have Hbe := Lib.hid (fun v2 w2 (hh : World.ownsRow w2 w.heap.size 5 1 v2 (4 + 1) ((bsI ((hexL b 8).take 4)).map (Value.int .u8) ++ [.int .u8 ((hexT.getD (q % 16) 0).toNat : Int)])) => (show World.ownsRow w2 w.heap.size 5 1 v2 (4 + 1) ((bsI ((hexL b 8).take (4 + 1))).map (Value.int .u8)) by rw [Hk.out, List.map_append]; exact hh))
      generalize hexT.getD (q % 16) 0 = D at *
      generalize q % 16 = M at *
      have hMi : (M : Int) < 16 := by omega
      have hMj : (0 : Int) ≤ (M : Int) ∧ (M : Int) < 16 := ⟨by omega, by omega⟩
      have hMn : ((M : Int)).toNat = M := by omega
      clear Htk Hget
      go_wp2_with (first | (refine wpList_shr rfl _ _ _ _ rfl (b : Int) 12 rfl rfl (by decide) (q : Int) E1.out ?_) | (at_builtin; refine wpList_append_own _ rfl _ _ 61 rfl w.heap.size 5 i0 (.int .u8 0) 1 1 (by kernel_rfl) hi hz0 hz1 hz2 rfl (by decide) _ _ _ rfl (Ho.out.alloc _) ⟨wr.heap.size, 0, none⟩ 1 1 [.int .u8 (D.toNat : Int)] rfl rfl (cell_one_new _ _ _) (by intro u hu; rw [List.mem_singleton] at hu; subst hu; rfl) (by unfold maxLen; omega) (by omega) (by simp; omega) ?_; intro v2 w2 hown2 hgrow2 _; have HO := Lib.hid (Hbe.out v2 w2 hown2); have HB : Hid (Below w.heap.size w w2) := Lib.hid ((Hb.out.alloc (by omega) _).grown hgrow2 (by simp; omega) (fun b hb => (Ho.out.lt b hb).1)); clear hown2 hgrow2))
      all_goals
        refine ⟨⟨4 + 1, by omega, by go_num, HO, HB⟩, ?_⟩
        simp [intOf]
    · rw [show (28 : Int) - 4 * ((5 : Nat) : Int) = 8 from rfl]
      obtain ⟨q, hqd⟩ : ∃ q, q = b / 256 := ⟨_, rfl⟩
      have hq : q < 4294967296 := by rw [hqd]; exact Nat.lt_of_le_of_lt (Nat.div_le_self _ _) hb
      have e1 : (b : Int).fdiv (2 ^ 8) = (q : Int) := by rw [Int.fdiv_eq_ediv_of_nonneg _ (by decide)]; omega
      have E1 := Lib.hid e1
      clear e1
      have Hk := Lib.hid (show bsI ((hexL b 8).take (5 + 1)) = bsI ((hexL b 8).take 5) ++ [((hexT.getD (q % 16) 0).toNat : Int)] by rw [hqd]; exact Htk.out 5 (by omega))
      clear hqd
      have e2 := and15 q hq
      have hm : q % 16 < 16 := Nat.mod_lt _ (by decide)
      have hxa := fun W => run_index_hex (q % 16) hm W
      have Hbe := Lib.hid (fun v2 w2 (hh : World.ownsRow w2 w.heap.size 5 1 v2 (5 + 1) ((bsI ((hexL b 8).take 5)).map (Value.int .u8) ++ [.int .u8 ((hexT.getD (q % 16) 0).toNat : Int)])) => (show World.ownsRow w2 w.heap.size 5 1 v2 (5 + 1) ((bsI ((hexL b 8).take (5 + 1))).map (Value.int .u8)) by rw [Hk.out, List.map_append]; exact hh))
      generalize hexT.getD (q % 16) 0 = D at *
      generalize q % 16 = M at *
      have hMi : (M : Int) < 16 := by omega
      have hMj : (0 : Int) ≤ (M : Int) ∧ (M : Int) < 16 := ⟨by omega, by omega⟩
      have hMn : ((M : Int)).toNat = M := by omega
      clear Htk Hget
      go_wp2_with (first | (refine wpList_shr rfl _ _ _ _ rfl (b : Int) 8 rfl rfl (by decide) (q : Int) E1.out ?_) | (at_builtin; refine wpList_append_own _ rfl _ _ 61 rfl w.heap.size 5 i0 (.int .u8 0) 1 1 (by kernel_rfl) hi hz0 hz1 hz2 rfl (by decide) _ _ _ rfl (Ho.out.alloc _) ⟨wr.heap.size, 0, none⟩ 1 1 [.int .u8 (D.toNat : Int)] rfl rfl (cell_one_new _ _ _) (by intro u hu; rw [List.mem_singleton] at hu; subst hu; rfl) (by unfold maxLen; omega) (by omega) (by simp; omega) ?_; intro v2 w2 hown2 hgrow2 _; have HO := Lib.hid (Hbe.out v2 w2 hown2); have HB : Hid (Below w.heap.size w w2) := Lib.hid ((Hb.out.alloc (by omega) _).grown hgrow2 (by simp; omega) (fun b hb => (Ho.out.lt b hb).1)); clear hown2 hgrow2))
      all_goals
        refine ⟨⟨5 + 1, by omega, by go_num, HO, HB⟩, ?_⟩
        simp [intOf]
    · rw [show (28 : Int) - 4 * ((6 : Nat) : Int) = 4 from rfl]
      obtain ⟨q, hqd⟩ : ∃ q, q = b / 16 := ⟨_, rfl⟩
      have hq : q < 4294967296 := by rw [hqd]; exact Nat.lt_of_le_of_lt (Nat.div_le_self _ _) hb
      have e1 : (b : Int).fdiv (2 ^ 4) = (q : Int) := by rw [Int.fdiv_eq_ediv_of_nonneg _ (by decide)]; omega
      have E1 := Lib.hid e1
      clear e1
      have Hk := Lib.hid (show bsI ((hexL b 8).take (6 + 1)) = bsI ((hexL b 8).take 6) ++ [((hexT.getD (q % 16) 0).toNat : Int)] by rw [hqd]; exact Htk.out 6 (by omega))
      clear hqd
      have e2 := and15 q hq
      have hm : q % 16 < 16 := Nat.mod_lt _ (by decide)
      have hxa := fun W => run_index_hex (q % 16) hm W
      have Hbe := Lib.hid (fun v2 w2 (hh : World.ownsRow w2 w.heap.size 5 1 v2 (6 + 1) ((bsI ((hexL b 8).take 6)).map (Value.int .u8) ++ [.int .u8 ((hexT.getD (q % 16) 0).toNat : Int)])) => (show World.ownsRow w2 w.heap.size 5 1 v2 (6 + 1) ((bsI ((hexL b 8).take (6 + 1))).map (Value.int .u8)) by rw [Hk.out, List.map_append]; exact hh))
      generalize hexT.getD (q % 16) 0 = D at *
      generalize q % 16 = M at *
      have hMi : (M : Int) < 16 := by omega
      have hMj : (0 : Int) ≤ (M : Int) ∧ (M : Int) < 16 := ⟨by omega, by omega⟩
      have hMn : ((M : Int)).toNat = M := by omega
      clear Htk Hget
      go_wp2_with (first | (refine wpList_shr rfl _ _ _ _ rfl (b : Int) 4 rfl rfl (by decide) (q : Int) E1.out ?_) | (at_builtin; refine wpList_append_own _ rfl _ _ 61 rfl w.heap.size 5 i0 (.int .u8 0) 1 1 (by kernel_rfl) hi hz0 hz1 hz2 rfl (by decide) _ _ _ rfl (Ho.out.alloc _) ⟨wr.heap.size, 0, none⟩ 1 1 [.int .u8 (D.toNat : Int)] rfl rfl (cell_one_new _ _ _) (by intro u hu; rw [List.mem_singleton] at hu; subst hu; rfl) (by unfold maxLen; omega) (by omega) (by simp; omega) ?_; intro v2 w2 hown2 hgrow2 _; have HO := Lib.hid (Hbe.out v2 w2 hown2); have HB : Hid (Below w.heap.size w w2) := Lib.hid ((Hb.out.alloc (by omega) _).grown hgrow2 (by simp; omega) (fun b hb => (Ho.out.lt b hb).1)); clear hown2 hgrow2))
      all_goals
        refine ⟨⟨6 + 1, by omega, by go_num, HO, HB⟩, ?_⟩
        simp [intOf]
    · rw [show (28 : Int) - 4 * ((7 : Nat) : Int) = 0 from rfl]
      obtain ⟨q, hqd⟩ : ∃ q, q = b := ⟨_, rfl⟩
      have hq : q < 4294967296 := by rw [hqd]; exact hb
      have e1 : (b : Int).fdiv (2 ^ 0) = (q : Int) := by rw [Int.fdiv_eq_ediv_of_nonneg _ (by decide)]; omega
      have E1 := Lib.hid e1
      clear e1
      have Hk := Lib.hid (show bsI ((hexL b 8).take (7 + 1)) = bsI ((hexL b 8).take 7) ++ [((hexT.getD (q % 16) 0).toNat : Int)] by rw [hqd]; have := Htk.out 7 (by omega); rw [show 16 ^ (7 - 7) = 1 from rfl, Nat.div_one] at this; exact this)
      clear hqd
      have e2 := and15 q hq
      have hm : q % 16 < 16 := Nat.mod_lt _ (by decide)
      have hxa := fun W => run_index_hex (q % 16) hm W
      have Hbe := Lib.hid (fun v2 w2 (hh : World.ownsRow w2 w.heap.size 5 1 v2 (7 + 1) ((bsI ((hexL b 8).take 7)).map (Value.int .u8) ++ [.int .u8 ((hexT.getD (q % 16) 0).toNat : Int)])) => (show World.ownsRow w2 w.heap.size 5 1 v2 (7 + 1) ((bsI ((hexL b 8).take (7 + 1))).map (Value.int .u8)) by rw [Hk.out, List.map_append]; exact hh))
      generalize hexT.getD (q % 16) 0 = D at *
      generalize q % 16 = M at *
      have hMi : (M : Int) < 16 := by omega
      have hMj : (0 : Int) ≤ (M : Int) ∧ (M : Int) < 16 := ⟨by omega, by omega⟩
      have hMn : ((M : Int)).toNat = M := by omega
      clear Htk Hget
      go_wp2_with (first | (refine wpList_shr rfl _ _ _ _ rfl (b : Int) 0 rfl rfl (by decide) (q : Int) E1.out ?_) | (at_builtin; refine wpList_append_own _ rfl _ _ 61 rfl w.heap.size 5 i0 (.int .u8 0) 1 1 (by kernel_rfl) hi hz0 hz1 hz2 rfl (by decide) _ _ _ rfl (Ho.out.alloc _) ⟨wr.heap.size, 0, none⟩ 1 1 [.int .u8 (D.toNat : Int)] rfl rfl (cell_one_new _ _ _) (by intro u hu; rw [List.mem_singleton] at hu; subst hu; rfl) (by unfold maxLen; omega) (by omega) (by simp; omega) ?_; intro v2 w2 hown2 hgrow2 _; have HO := Lib.hid (Hbe.out v2 w2 hown2); have HB : Hid (Below w.heap.size w w2) := Lib.hid ((Hb.out.alloc (by omega) _).grown hgrow2 (by simp; omega) (fun b hb => (Ho.out.lt b hb).1)); clear hown2 hgrow2))
      all_goals
        refine ⟨⟨7 + 1, by omega, by go_num, HO, HB⟩, ?_⟩
        simp [intOf]
    · rw [show (28 : Int) - 4 * ((8 : Nat) : Int) = -4 from rfl]
      have hT : (hexL b 8).take 8 = hexL b 8 := List.take_of_length_le (by rw [hexL_len]; exact Nat.le_refl _)
      have ho := Ho.out
      rw [hT] at ho
      obtain ⟨g, c, rfl, hg, hcell⟩ := Bs.of_owns ho (hexL_len b 8) (by omega)
      rw [hexL_len] at hcell
      have HE := Lib.hid (show strOfNums (bsI (hexL b 8)) = hexS b from strOf_bsI (hexL b 8))
      have hconv : ∀ dst, Try.prog.underlying dst = some .string → (convert 61 dst (.slice (some ⟨g, 0, none⟩) 8 c)).run Try.prog wr = .ok (.string (strOfNums (bsI (hexL b 8)))) wr :=
        run_convert_bytes_arg wr 61 5 Try.underlying61 Try.underlying5 g 0 8 c (bsI (hexL b 8)) (by rw [bsI_len, hexL_len]) (fun i hi => by rw [Nat.zero_add]; exact hcell i hi)
      rw [HE.out] at hconv
      rw [hexL_len]
      generalize hR : hexS b = R at hconv
      have HRR := Lib.hid hR
      clear hR ho hcell Ho hT Htk Hget
      go_wp2
      go_ret
      exact ⟨ret_str7 HRR.out.symm, Hb.out⟩
end Go.Proofs.Ytcoehcoohppbjac
