/- Decks of ranks: pure, and what both texts share. -/
import Derived.Test.YtcoehcoohppbjaaUb
import Derived.Test.YtcoehcoohppbjaaDr
import Derived.Shelf.SlicesE.Delete
import Derived.Sort.Row
set_option linter.unusedVariables false
namespace Go.Proofs.Ytcoehcoohppbjaa
open Go.RowKit Go.Shelf Go.Sort
def delRen : Go.Shelf.Ren := ⟨fun | 45 => 110 | n => n, fun | 3 => 3 | 4 => 4 | 22 => 22 | 23 => 2 | n => n, fun n => n⟩
theorem delLays : Go.Proofs.SlLaysE.n45 Try.prog delRen := {
  mixed := by kernel_rfl
  f45 := ⟨Try.f110.name, by decide, Try.func110.trans (congrArg some (by kernel_rfl))⟩
  t0 := Try.underlying0
  a0 := Try.isAgg0
  z0 := Try.sizeOf0
  v0 := Try.zeroValue0
  t3 := Try.underlying3
  a3 := Try.isAgg3
  z3 := Try.sizeOf3
  v3 := Try.zeroValue3
  t4 := Try.underlying4
  a4 := Try.isAgg4
  z4 := Try.sizeOf4
  v4 := Try.zeroValue4
  t22 := Try.underlying22
  a22 := Try.isAgg22
  z22 := Try.sizeOf22
  v22 := Try.zeroValue22
  a23 := Try.isAgg2
  z23 := Try.sizeOf2
}
theorem putRow_only (enc : Int → Value) (w : World) (blk off q : Nat) (d : Array Int) : Only blk (blk + 1) w (putRow enc (Sort.ahead w q) blk off d) := by
  refine ⟨rfl, rfl, rfl, by simp [putRow, mapBlock, Sort.ahead], fun k hk => ?_⟩
  show ((w.heap.modify blk (onCells (putCells enc off d)))[k]?) = _
  rw [Array.getElem?_modify, if_neg (by omega)]
theorem delete_any (l : List Int) (D off cap k lo hi : Nat) (w : World) (h : Sw (Value.int .i64) 0 w (.slice (some ⟨D, off, none⟩) l.length cap) l lo hi) (hk : k < l.length) (hm : cap ≤ 9223372036854775807) :
    Calls Try.prog 110 #[.slice (some ⟨D, off, none⟩) l.length cap, .int .i64 (k : Int), .int .i64 ((k : Int) + 1)] w fun e w' => e = .returned (.slice (some ⟨D, off, none⟩) (l.length - 1) cap) ∧ Sw (Value.int .i64) 0 w' (.slice (some ⟨D, off, none⟩) (l.length - 1) cap) (l.eraseIdx k) lo hi ∧ Only D (D + 1) w w' := by
  obtain ⟨i0, hi0, hz0, hz1, hz2⟩ := info_parts (show (Try.prog.info? 2).map (fun i => (i.zero, i.size, i.bytes)) = some (some (.int .i64 0), 1, 8) by kernel_rfl)
  obtain ⟨p', cap', e, hf⟩ := h
  cases e
  obtain ⟨hcap, b', off', e, g1, g2, g3, hc⟩ := hf (by omega)
  cases e
  have hH : Holds (Value.int .i64) w D off l.toArray := fun j hj => by
    have hj' : j < l.length := by simpa using hj
    have := hc j hj'
    refine ⟨?_, this.2⟩
    rw [this.1, getD_lt _ _ _ hj']
    simp [hj']
  have hd := AnyE.slices_Delete delLays (Value.int .i64) (fun _ => rfl) 0 Try.zeroValue2 i0 hi0 hz1 D off cap k (k + 1) l.toArray w hH (by simpa using hcap) hm (by omega) (by simp; omega)
  have hlen : (l.eraseIdx k).length = l.length - 1 := List.length_eraseIdx_of_lt hk
  simp only [List.size_toArray, Nat.add_sub_cancel_left, Int.natCast_add, Int.cast_ofNat_Int] at hd
  refine Calls.mono (show Calls Try.prog 110 _ w _ from hd) ?_
  rintro e w' ⟨rfl, q, rfl⟩
  have he : (l.toArray.toList.take k ++ l.toArray.toList.drop (k + 1) ++ List.replicate 1 0) = l.eraseIdx k ++ [0] := by
    rw [List.eraseIdx_eq_take_drop_succ]; rfl
  rw [he]
  have hs : (l.eraseIdx k ++ [0]).toArray.size = l.toArray.size := by simp [hlen]; omega
  have hp := holds_putRow (Value.int .i64) (Sort.ahead w q) D off l.toArray (l.eraseIdx k ++ [0]).toArray hH hs
  have ho := putRow_only (Value.int .i64) w D off q (l.eraseIdx k ++ [0]).toArray
  refine ⟨rfl, ⟨_, _, by rw [hlen], fun h0 => ⟨by rw [hlen]; omega, D, off, rfl, g1, g2, by rw [ho.size]; exact g3, fun i hi => ?_⟩⟩, ho⟩
  have hx := hp i (by simp; omega)
  refine ⟨hx.1.trans ?_, hx.2⟩
  have hi2 : i < (l.eraseIdx k ++ [0]).toArray.size := by simp; omega
  rw [getElem!_pos _ i hi2, getD_lt _ _ _ hi]
  simp [hi]
theorem product_any (n : Nat) (w : World) (hn : n ≤ 20) :
    Calls Try.prog 106 #[.int .i64 (n : Int)] w fun e w' => e = .returned (.int .i64 ((fct n : Nat) : Int)) ∧ w = w' := by
  have Hb := Lib.hid (fun k (h : k ≤ 20) => fct_20 k h)
  have Hst := Lib.hid (fun k => (show fct (k + 1) = (k + 1) * fct k from rfl))
  have H1 := Lib.hid (show fct 1 = 1 from rfl)
  have H0 := Lib.hid (show fct 0 = 1 from rfl)
  go_enter Try.func106, Try.ntmps106
  go_wp2
  go_loop [3, 4] (fun o i => ∃ k : Nat, 1 ≤ k ∧ (k ≤ n ∨ k = 1) ∧ i = .int .i64 ((k : Int) + 1) ∧ o = .int .i64 ((fct k : Nat) : Int)) (fun _ i => (n + 1) - (intOf i).toNat)
  case atStart => exact ⟨1, Nat.le_refl _, .inr rfl, rfl, by rw [H1.out]; rfl⟩
  case round =>
    obtain ⟨k, hk1, hk, rfl, rfl⟩ := hrel
    have hb := Hb.out k (by omega)
    by_cases hlt : k + 1 ≤ n
    · have hb2 := Hb.out (k + 1) (by omega)
      rw [Hst.out k] at hb2
      have hm : ((k + 1) * fct k : Nat) = fct k * (k + 1) := Nat.mul_comm _ _
      rw [hm] at hb2
      have hb3 : 0 ≤ ((fct k : Nat) : Int) * ((k : Int) + 1) ∧ ((fct k : Nat) : Int) * ((k : Int) + 1) ≤ 2432902008176640000 := by
        have e : ((fct k : Nat) : Int) * ((k : Int) + 1) = ((fct k * (k + 1) : Nat) : Int) := by push_cast; rfl
        rw [e]; omega
      obtain ⟨m0, m1⟩ := hb3
      have Hs := Lib.hid (show ((fct (k + 1) : Nat) : Int) = ((fct k : Nat) : Int) * ((k : Int) + 1) by rw [Hst.out k, Nat.mul_comm]; push_cast; rfl)
      clear hb2 hm
      generalize ((fct k : Nat) : Int) = F at *
      go_wp2
      go_round
      case rel => exact ⟨k + 1, by omega, by omega, by go_num, by rw [Hs.out]⟩
      case measure => simp [intOf]; omega
    · have Hk := Lib.hid (show fct k = fct n from by
        by_cases e : k = n
        · rw [e]
        · have e1 : k = 1 := by omega
          have e0 : n = 0 := by omega
          rw [e1, e0, H1.out, H0.out])
      go_wp2
      go_ret
      exact ⟨ret_int (by rw [Hk.out]), rfl⟩

theorem rsize_yes (n : Int) (w : World) (h1 : 1 ≤ n) (h2 : n ≤ 20) : Calls Try.prog 107 #[.int .i64 n] w fun e w' => e = .returned (.bool true) ∧ w = w' := by
  go_enter Try.func107, Try.ntmps107
  go_wp2
  go_ret
  exact ⟨rfl, rfl⟩
theorem rsize_no (n : Int) (w : World) (h : n < 1 ∨ 20 < n) : Calls Try.prog 107 #[.int .i64 n] w fun e w' => e = .returned (.bool false) ∧ w = w' := by
  by_cases h1 : n < 1
  · clear h
    have d : decide (1 ≤ n) = false := decide_eq_false (by omega)
    go_enter Try.func107, Try.ntmps107
    go_wp2
    go_ret
    exact ⟨rfl, rfl⟩
  · have h2 : 20 < n := by omega
    have h1' : 1 ≤ n := by omega
    clear h
    have d : decide (n ≤ 20) = false := decide_eq_false (by omega)
    go_enter Try.func107, Try.ntmps107
    go_wp2
    go_ret
    exact ⟨rfl, rfl⟩


/-- the place of the card that comes k-th -/
def idxR (n r k : Nat) : Nat := (r / fct (n - 1 - k)) % (n - k)
theorem idxR_lt (n r k : Nat) (h : k < n) : idxR n r k < n - k := Nat.mod_lt _ (by omega)
def leftR (n r : Nat) : Nat → List Int
  | 0 => tab n fun k => (k : Int)
  | k + 1 => (leftR n r k).eraseIdx (idxR n r k)
theorem leftR_len (n r : Nat) : ∀ k, k ≤ n → (leftR n r k).length = n - k
  | 0, _ => by rw [leftR, tab_len]; rfl
  | k + 1, h => by
    have h1 := leftR_len n r k (by omega)
    have h2 := idxR_lt n r k (by omega)
    rw [leftR, List.length_eraseIdx_of_lt (by omega), h1]; omega
def rkG (n r k : Nat) : Int := (leftR n r k).getD (idxR n r k) 0
theorem div_fct (r q : Nat) : r / fct q / (q + 1) = r / fct (q + 1) := by rw [Nat.div_div_eq_div_mul, fct, Nat.mul_comm]
theorem mod_fct (r q : Nat) : r % fct (q + 1) / fct q = r / fct q % (q + 1) := by
  rw [fct, Nat.mul_comm, Nat.mod_mul_right_div_self]
theorem mod_mod_fct (r q : Nat) : r % fct (q + 1) % fct q = r % fct q := by
  rw [fct]; exact Nat.mod_mul_left_mod r (q + 1) (fct q)
end Go.Proofs.Ytcoehcoohppbjaa
