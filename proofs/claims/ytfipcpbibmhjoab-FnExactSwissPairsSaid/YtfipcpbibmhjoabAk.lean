/- Contracts: one element deleted, the first that a function picks. -/
import Derived.Test.YtfipcpbibmhjoabAj
import Derived.Shelf.SlicesE.Delete
import Derived.Sort.Row
set_option linter.unusedVariables false
namespace Go.Proofs.Ytfipcpbibmhjoab
open Go.RowKit Go.Shelf Go.Sort
def delRen : Go.Shelf.Ren := ⟨fun | 45 => 51 | n => n, fun | 3 => 3 | 4 => 4 | 22 => 22 | 23 => 2 | n => n, fun n => n⟩
theorem delLays : Go.Proofs.SlLaysE.n45 Try.prog delRen := {
  mixed := by kernel_rfl
  f45 := ⟨Try.f51.name, by decide, Try.func51.trans (congrArg some (by kernel_rfl))⟩
  t0 := Try.underlying0
  a0 := Try.isAgg0
  z0 := Try.sizeOf0
  v0 := Try.zeroValue0
  t3 := Try.underlying3
  a3 := Try.isAgg3
  z3 := Try.sizeOf3
  v3 := Try.zeroValue3
  t4 := Try.underlying4
  a4 := Try.isAgg4
  z4 := Try.sizeOf4
  v4 := Try.zeroValue4
  t22 := Try.underlying22
  a22 := Try.isAgg22
  z22 := Try.sizeOf22
  v22 := Try.zeroValue22
  a23 := Try.isAgg2
  z23 := Try.sizeOf2
}
theorem putRow_only (enc : Int → Value) (w : World) (blk off q : Nat) (d : Array Int) : Only blk (blk + 1) w (putRow enc (Sort.ahead w q) blk off d) := by
  refine ⟨rfl, rfl, rfl, by simp [putRow, mapBlock, Sort.ahead], fun k hk => ?_⟩
  show ((w.heap.modify blk (onCells (putCells enc off d)))[k]?) = _
  rw [Array.getElem?_modify, if_neg (by omega)]
theorem delete_any (l : List Int) (D off cap k lo hi : Nat) (w : World) (h : Sw (Value.int .i64) 0 w (.slice (some ⟨D, off, none⟩) l.length cap) l lo hi) (hk : k < l.length) (hm : cap ≤ 9223372036854775807) :
    Calls Try.prog 51 #[.slice (some ⟨D, off, none⟩) l.length cap, .int .i64 (k : Int), .int .i64 ((k : Int) + 1)] w fun e w' => e = .returned (.slice (some ⟨D, off, none⟩) (l.length - 1) cap) ∧ Sw (Value.int .i64) 0 w' (.slice (some ⟨D, off, none⟩) (l.length - 1) cap) (l.eraseIdx k) lo hi ∧ Only D (D + 1) w w' := by
  obtain ⟨i0, hi0, hz0, hz1, hz2⟩ := info_parts (show (Try.prog.info? 2).map (fun i => (i.zero, i.size, i.bytes)) = some (some (.int .i64 0), 1, 8) by kernel_rfl)
  obtain ⟨p', cap', e, hf⟩ := h
  cases e
  obtain ⟨hcap, b', off', e, g1, g2, g3, hc⟩ := hf (by omega)
  cases e
  have hH : Holds (Value.int .i64) w D off l.toArray := fun j hj => by
    have hj' : j < l.length := by simpa using hj
    have := hc j hj'
    refine ⟨?_, this.2⟩
    rw [this.1, getD_lt _ _ _ hj']
    simp [hj']
  have hd := AnyE.slices_Delete delLays (Value.int .i64) (fun _ => rfl) 0 Try.zeroValue2 i0 hi0 hz1 D off cap k (k + 1) l.toArray w hH (by simpa using hcap) hm (by omega) (by simp; omega)
  have hlen : (l.eraseIdx k).length = l.length - 1 := List.length_eraseIdx_of_lt hk
  simp only [List.size_toArray, Nat.add_sub_cancel_left, Int.natCast_add, Int.cast_ofNat_Int] at hd
  refine Calls.mono (show Calls Try.prog 51 _ w _ from hd) ?_
  rintro e w' ⟨rfl, q, rfl⟩
  have he : (l.toArray.toList.take k ++ l.toArray.toList.drop (k + 1) ++ List.replicate 1 0) = l.eraseIdx k ++ [0] := by
    rw [List.eraseIdx_eq_take_drop_succ]; rfl
  rw [he]
  have hs : (l.eraseIdx k ++ [0]).toArray.size = l.toArray.size := by simp [hlen]; omega
  have hp := holds_putRow (Value.int .i64) (Sort.ahead w q) D off l.toArray (l.eraseIdx k ++ [0]).toArray hH hs
  have ho := putRow_only (Value.int .i64) w D off q (l.eraseIdx k ++ [0]).toArray
  refine ⟨rfl, ⟨_, _, by rw [hlen], fun h0 => ⟨by rw [hlen]; omega, D, off, rfl, g1, g2, by rw [ho.size]; exact g3, fun i hi => ?_⟩⟩, ho⟩
  have hx := hp i (by simp; omega)
  refine ⟨hx.1.trans ?_, hx.2⟩
  have hi2 : i < (l.eraseIdx k ++ [0]).toArray.size := by simp; omega
  rw [getElem!_pos _ i hi2, getD_lt _ _ _ hi]
  simp [hi]
/-- the first one that is picked, or -1 -/
def firstAt (p : Int → Bool) (l : List Int) (z : Int) : Prop := (z = -1 ∧ ∀ j, j < l.length → p (l.getD j 0) = false) ∨ ∃ k : Nat, z = (k : Int) ∧ k < l.length ∧ p (l.getD k 0) = true ∧ ∀ j, j < k → p (l.getD j 0) = false
set_option maxHeartbeats 1000000 in
theorem first_any (p : Int → Bool) (l : List Int) (v : Value) (K : Nat) (caps : Array Value) (w : World) (hn : l.length ≤ 1048576) (h : Sl (Value.int .i64) 0 w v l)
    (hent : ∀ args w, (callFunc K args).run Try.prog w = .ok (.enter K args) w)
    (hc : ∀ j, j < l.length → Calls Try.prog K (#[.int .i64 (l.getD j 0)] ++ caps) w fun e w' => e = .returned (.bool (p (l.getD j 0))) ∧ w = w') :
    Calls Try.prog 49 #[v, .func (.func K) #[] caps] w fun e w' => ∃ z, e = .returned (.int .i64 z) ∧ firstAt p l z ∧ w = w' := by
  obtain ⟨q, cap, rfl, hf⟩ := h
  have Hf := Lib.hid hf
  have Hc := Lib.hid hc
  clear hf hc
  go_enter Try.func49, Try.ntmps49
  go_wp2
  go_loopw [8] (fun iv wr => ∃ k : Nat, k ≤ l.length ∧ iv = .int .i64 (k : Int) ∧ Hid (∀ j, j < k → p (l.getD j 0) = false) ∧ Hid (w = wr)) (fun iv _ => l.length - (intOf iv).toNat)
  case atStart => exact ⟨0, Nat.zero_le _, rfl, Lib.hid (fun j h => absurd h (by omega)), Lib.hid rfl⟩
  case round =>
    obtain ⟨k, hk, rfl, Hj, hw⟩ := hrel
    obtain rfl := hw.out
    by_cases hlt : k < l.length
    · obtain ⟨hcap, b, off, rfl, hbs, hcc⟩ := Hf.out (by omega)
      have c1 := hcc k hlt
      have Hk := Lib.hid (Hc.out k hlt)
      clear hcc
      cases hp : p (l.getD k 0)
      · rw [hp] at Hk
        have HN : Hid (∀ j, j < k + 1 → p (l.getD j 0) = false) := Lib.hid (fun j hj => by
          by_cases e : j = k
          · rw [e]; exact hp
          · exact Hj.out j (by omega))
        clear Hj hp
        generalize hx : l.getD k 0 = x at c1 Hk
        clear hx
        go_wp2_with (refine (Hk.out).mono ?_; rintro e w' ⟨rfl, rfl⟩)
        go_roundw
        case rel => exact ⟨k + 1, by omega, by go_num, HN, Lib.hid (by first | trivial | rfl)⟩
        case measure => simp [intOf]; omega
      · rw [hp] at Hk
        have HN : Hid (firstAt p l (k : Int)) := Lib.hid (.inr ⟨k, rfl, hlt, hp, Hj.out⟩)
        clear Hj hp
        generalize hx : l.getD k 0 = x at c1 Hk
        clear hx
        go_wp2_with (refine (Hk.out).mono ?_; rintro e w' ⟨rfl, rfl⟩)
        go_ret
        exact ⟨_, rfl, HN.out, rfl⟩
    · obtain rfl : k = l.length := by omega
      have HN : Hid (firstAt p l (-1)) := Lib.hid (.inl ⟨rfl, Hj.out⟩)
      clear Hj
      go_wp2
      go_ret
      exact ⟨_, rfl, HN.out, rfl⟩
set_option maxHeartbeats 2000000 in
theorem clo_swiss (n f x : Nat) (M : List Int) (vM : Value) (B1 B3 B8 : Nat) (w : World) (hM : Sl (Value.int .i64) 0 w vM M) (hl : M.length = n * n) (h16 : n ≤ 16) (hf : f < n) (hx : x < n)
    (c1 : w.cell? ⟨B1, 0, none⟩ = some (.int .i64 (f : Int))) (c3 : w.cell? ⟨B3, 0, none⟩ = some vM) (c8 : w.cell? ⟨B8, 0, none⟩ = some (.int .i64 (n : Int))) :
    Calls Try.prog 50 #[.int .i64 (x : Int), .pointer (some ⟨B1, 0, none⟩), .pointer (some ⟨B3, 0, none⟩), .pointer (some ⟨B8, 0, none⟩)] w fun e w' => e = .returned (.bool (!(x == f) && (M.getD (f * n + x) 0 == 0))) ∧ w = w' := by
  obtain ⟨q, cap, rfl, hfm⟩ := hM
  have hlt := cell_lt hf hx
  obtain ⟨hcap, b, off, rfl, hbs, hc⟩ := hfm (by omega)
  obtain ⟨V, hV⟩ : ∃ V, V = f * n := ⟨_, rfl⟩
  have hV2 : (f : Int) * (n : Int) = (V : Int) := by rw [hV]; simp
  have hV3 : V ≤ 256 := by rw [hV]; exact mul_le16 (by omega) h16
  have hVm : V + x < M.length := by rw [hl, hV]; exact hlt
  have d1 := hc (V + x) hVm
  rw [← hV]
  clear hc hfm hlt hV hl
  generalize M.length = m at *
  by_cases hxf : x = f
  · subst hxf
    rw [show (!(x == x) && (M.getD (V + x) 0 == 0)) = false by simp]
    have e1 : ((x : Int) != (x : Int)) = false := by simp
    go_enter Try.func50, Try.ntmps50
    go_wp2
    go_ret
    exact ⟨rfl, rfl⟩
  · have e0 : (x == f) = false := by simpa using hxf
    rw [e0, Bool.not_false, Bool.true_and]
    generalize M.getD (V + x) 0 = y at *
    have e1 : ((x : Int) != (f : Int)) = true := by simp; omega
    have e2 : ((x : Int) = (f : Int)) = False := eq_false (by omega)
    have e3 : (x = f) = False := eq_false hxf
    clear hxf
    go_enter Try.func50, Try.ntmps50
    go_wp2
    go_ret
    exact ⟨ret_bool (by rfl), rfl⟩
end Go.Proofs.Ytfipcpbibmhjoab
