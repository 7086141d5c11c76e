/- Contracts: rings of bits, the program's. -/
import Derived.Test.YtolmhnekfokpdacRa
import Derived.Test.YtolmhnekfokpdacDc
import Derived.Deep.Cut
import Derived.IntWalk
set_option linter.unusedVariables false
namespace Go.Proofs.Ytolmhnekfokpdac
open Go.RowKit


theorem own_keep {w w' : World} {base g0 cap : Nat} {e : TypeId} {size n : Nat} {xs : List Value} (h : w.ownsRow base e size (.slice (some ⟨g0, 0, none⟩) n cap) n xs) (hk : w'.heap[g0]? = w.heap[g0]?) : w'.ownsRow base e size (.slice (some ⟨g0, 0, none⟩) n cap) n xs := by
  obtain ⟨h1, h2⟩ := h
  refine ⟨h1, ?_⟩
  rcases h2 with hn | ⟨g, cap, cur, hv, hb, hgg, rest⟩
  · exact .inl hn
  · cases hv
    exact .inr ⟨g0, cap, cur, rfl, hb, hk.trans hgg, rest⟩
set_option maxRecDepth 100000 in
set_option maxHeartbeats 2000000 in
theorem ring_impl (n W : Nat) (w : World) (n1 : 1 ≤ n) (n6 : n ≤ 6) (hW : 2 ^ n = W) (h2 : 2 ≤ W) (h64 : W ≤ 64) (hE : ∀ k, brE W (brS W k) + 1 < W) (hok : ∀ k, (brS W k).1 < W ∧ (brS W k).2.length = W) :
    Calls Try.prog 29 #[.int .i64 (n : Int)] w fun e w' => ∃ r, e = .returned (.tuple #[r, .bool true]) ∧ Sw (Value.int .i64) 0 w' r (tab W (brG W)) w.heap.size w'.heap.size ∧ Below w.heap.size w w' := by
  have d1 : decide ((n : Int) < 1) = false := decide_eq_false (by omega)
  have d2 : decide (6 < (n : Int)) = false := decide_eq_false (by omega)
  have hsh : wrap64 ((2 : Int) ^ n) = (W : Int) := by
    rw [show (2 : Int) ^ n = (W : Int) by rw [← hW]; push_cast; rfl]
    exact IntWalk.wrap64_in _ ⟨by omega, by omega⟩
  have HE := Lib.hid hE
  have Hok := Lib.hid hok
  have H0 : Hid (brS W 0 = (W - 1, List.replicate W false)) := Lib.hid rfl
  clear hE hok hW
  obtain ⟨i0, hi, hz0, hz1, hz2⟩ := info_parts (show (Try.prog.info? 2).map (fun i => (i.zero, i.size, i.bytes)) = some (some (.int .i64 0), 1, 8) by kernel_rfl)
  obtain ⟨j0, ji, jz0, jz1, jz2⟩ := info_parts (show (Try.prog.info? 4).map (fun i => (i.zero, i.size, i.bytes)) = some (some (.bool false), 1, 1) by kernel_rfl)
  go_enter Try.func29, Try.ntmps29
  go_upto_region 4 with (fail)
  rw [hsh]
  clear hsh
  go_wp2_with (first | (at_make; refine wpList_make_full _ rfl _ _ 22 rfl w.heap.size 2 i0 (.int .i64 0) 1 (by kernel_rfl) hi hz0 hz1 .i64 .i64 W W W rfl rfl rfl rfl (by rw [hz2]; omega) (by unfold maxLen; omega) (Nat.le_refl _) ?_; intro w2 hown hgrow; have Hbel := Lib.hid ((Below.refl _ w).grown hgrow (Nat.le_refl _) (by simp)); have Hown := Lib.hid hown; have hlt2 : w.heap.size < w2.heap.size := (hown.lt _ rfl).2; clear hown hgrow) | (at_make; refine wpList_make_full _ rfl _ _ 58 rfl w2.heap.size 4 j0 (.bool false) 1 (by kernel_rfl) ji jz0 jz1 .i64 .i64 W W W rfl rfl rfl rfl (by rw [jz2]; omega) (by unfold maxLen; omega) (Nat.le_refl _) ?_; intro w3 hown3 hgrow3; have Hown3 := Lib.hid hown3; have Hown2 := Lib.hid (Hown.out.kept hgrow3 (.inr (by simp [Value.ownBlock]))); have Hbel3 := Lib.hid (Hbel.out.grown hgrow3 (by omega) (by simp)); clear hown3 hgrow3))
  generalize w2.heap.size = B at *
  go_loopw [7, 25] (fun wd i wr => ∃ k : Nat, k ≤ W ∧ i = .int .i64 (k : Int) ∧ wd = .int .i64 (((brS W k).1 : Nat) : Int) ∧ Hid (wr.ownsRow w.heap.size 2 1 (.slice (some ⟨w.heap.size, 0, none⟩) W W) W ((filled W (brG W) k).map (Value.int .i64))) ∧ Hid (wr.ownsRow B 4 1 (.slice (some ⟨B, 0, none⟩) W W) W ((brS W k).2.map Value.bool)) ∧ Hid (Below w.heap.size w wr)) (fun _ i _ => W - (intOf i).toNat)
  case atStart =>
    refine ⟨0, Nat.zero_le _, rfl, by rw [H0.out]; exact congrArg (Value.int .i64) (by show (W : Int) - 1 = ((W - 1 : Nat) : Int); omega), Lib.hid ?_, Lib.hid ?_, Hbel3⟩
    · have h0 := Hown2.out
      have e : (madeCells (Value.int .i64 0).cells (W * 1)).toList = (filled W (brG W) 0).map (Value.int .i64) := by
        rw [filled_zero, Nat.mul_one, List.map_replicate]
        exact made1 _ W
      rw [e] at h0
      exact h0
    · have h0 := Hown3.out
      have e : (madeCells (Value.bool false).cells (W * 1)).toList = (brS W 0).2.map Value.bool := by
        rw [H0.out, Nat.mul_one, List.map_replicate]
        exact made1 _ W
      rw [e] at h0
      exact h0
  case round =>
    obtain ⟨k, hk, rfl, rfl, hring, hseen, hb⟩ := hrel
    by_cases hlt : k < W
    · have hE := HE.out k
      obtain ⟨hs0, hsl⟩ := Hok.out k
      have hBw : B < wr.heap.size := (hseen.out.lt _ rfl).2
      have hw0 : w.heap.size < wr.heap.size := (hring.out.lt _ rfl).2
      have hme : 2 * (((brS W k).1 : Nat) : Int) % (W : Int) = ((brE W (brS W k) : Nat) : Int) := rfl
      have Hcs : Hid (∀ j, j < W → wr.cell? ⟨B, j, none⟩ = some (.bool ((brS W k).2.getD j false))) := Lib.hid (fun j hj => by
        rw [hseen.out.cellAt j (by omega), List.getElem?_map, List.getElem?_eq_getElem (by omega), getD_lt (brS W k).2 false j (by omega)]; rfl)
      have hc0 : wr.cell? ⟨w.heap.size, k, none⟩ = some (.int .i64 0) := by
        rw [hring.out.cellAt k (by omega), List.getElem?_map, filled_at _ _ _ hlt]; rfl
      have ce := Hcs.out (brE W (brS W k)) (by omega)
      have hfe : ∀ E : Nat, brE W (brS W k) = E → brE W (brS W k) = E := fun _ h => h
      have hEE : ∃ E : Nat, brE W (brS W k) = E := ⟨_, rfl⟩
      obtain ⟨E, hEq⟩ := hEE
      rw [hEq] at hme ce hE
      clear hfe
      cases hbk : (brS W k).2.getD E false
      all_goals rw [hbk] at ce
      · have HD := Lib.hid (show brD W (brS W k) = E from by unfold brD; rw [hEq, hbk]; rfl)
        have hdlt : E < W := by omega
        have cd : wr.cell? ⟨B, E, none⟩ = some (.bool ((brS W k).2.getD (E) false)) := Hcs.out _ hdlt
        have fd := hseen.out.frozenAt (E)
        have c3 : (wr.setCell ⟨B, E, none⟩ (.bool true)).cell? ⟨w.heap.size, k, none⟩ = some (.int .i64 0) := by
          rw [World.cell?_setCell_other _ _ _ _ (fun e => by injection e; omega)]; exact hc0
        have f3 : (wr.setCell ⟨B, E, none⟩ (.bool true)).frozen? ⟨w.heap.size, k, none⟩ = false := by rw [World.frozen?_setCell]; exact hring.out.frozenAt k
        obtain ⟨hs1, _⟩ := hseen.out.stored (E) (.bool true)
        rw [← List.map_set] at hs1
        have hr0 : World.ownsRow (wr.setCell ⟨B, E, none⟩ (.bool true)) w.heap.size 2 1 (.slice (some ⟨w.heap.size, 0, none⟩) W W) W ((filled W (brG W) k).map (Value.int .i64)) :=
          own_keep hring.out (Below.heap_setCell _ _ _ _ (fun e => by simp at e; omega))
        obtain ⟨hr1, _⟩ := hr0.stored k (.int .i64 (brG W k))
        rw [← List.map_set, filled_set _ _ _ hlt] at hr1
        have hs2 := own_keep (w' := (wr.setCell ⟨B, E, none⟩ (.bool true)).setCell ⟨w.heap.size, k, none⟩ (.int .i64 (brG W k))) hs1 (Below.heap_setCell _ _ _ _ (fun e => by simp at e; omega))
        have hbb := (hb.out.setCell (p := ⟨B, E, none⟩) (by show w.heap.size ≤ B; omega) (.bool true)).setCell (p := ⟨w.heap.size, k, none⟩) (Nat.le_refl _) (.int .i64 (brG W k))
        have hsn : brS W (k + 1) = (E, (brS W k).2.set (E) true) := by rw [brS, HD.out]
        have hg : brG W k = (E : Int) % 2 := by unfold brG; rw [HD.out]; rfl
        rw [hg] at hr1 hs2 hbb
        rw [show (brS W k).2.set (E) true = (brS W (k + 1)).2 by rw [hsn]] at hs2
        have HS2 := Lib.hid hs2
        have HR := Lib.hid hr1
        have HBB := Lib.hid hbb
        have HSN := Lib.hid (show (brS W (k + 1)).1 = E by rw [hsn])
        clear hs1 hs2 hr0 hr1 hbb hsn hg hc0 HD hEq hbk Hcs hring hseen hb hsl
        generalize (brS W k).1 = d0 at *
        generalize (brS W k).2.getD (E) false = z at *
        go_wp2
        go_roundw
        case rel => exact ⟨k + 1, by omega, by go_num, by rw [HSN.out]; go_num, HR, HS2, HBB⟩
        case measure => simp [intOf]; omega
      · have HD := Lib.hid (show brD W (brS W k) = E + 1 from by unfold brD; rw [hEq, hbk]; rfl)
        have hdlt : E + 1 < W := by omega
        have cd : wr.cell? ⟨B, E + 1, none⟩ = some (.bool ((brS W k).2.getD (E + 1) false)) := Hcs.out _ hdlt
        have fd := hseen.out.frozenAt (E + 1)
        have c3 : (wr.setCell ⟨B, E + 1, none⟩ (.bool true)).cell? ⟨w.heap.size, k, none⟩ = some (.int .i64 0) := by
          rw [World.cell?_setCell_other _ _ _ _ (fun e => by injection e; omega)]; exact hc0
        have f3 : (wr.setCell ⟨B, E + 1, none⟩ (.bool true)).frozen? ⟨w.heap.size, k, none⟩ = false := by rw [World.frozen?_setCell]; exact hring.out.frozenAt k
        obtain ⟨hs1, _⟩ := hseen.out.stored (E + 1) (.bool true)
        rw [← List.map_set] at hs1
        have hr0 : World.ownsRow (wr.setCell ⟨B, E + 1, none⟩ (.bool true)) w.heap.size 2 1 (.slice (some ⟨w.heap.size, 0, none⟩) W W) W ((filled W (brG W) k).map (Value.int .i64)) :=
          own_keep hring.out (Below.heap_setCell _ _ _ _ (fun e => by simp at e; omega))
        obtain ⟨hr1, _⟩ := hr0.stored k (.int .i64 (brG W k))
        rw [← List.map_set, filled_set _ _ _ hlt] at hr1
        have hs2 := own_keep (w' := (wr.setCell ⟨B, E + 1, none⟩ (.bool true)).setCell ⟨w.heap.size, k, none⟩ (.int .i64 (brG W k))) hs1 (Below.heap_setCell _ _ _ _ (fun e => by simp at e; omega))
        have hbb := (hb.out.setCell (p := ⟨B, E + 1, none⟩) (by show w.heap.size ≤ B; omega) (.bool true)).setCell (p := ⟨w.heap.size, k, none⟩) (Nat.le_refl _) (.int .i64 (brG W k))
        have hsn : brS W (k + 1) = (E + 1, (brS W k).2.set (E + 1) true) := by rw [brS, HD.out]
        have hg : brG W k = ((E : Int) + 1) % 2 := by unfold brG; rw [HD.out]; rfl
        rw [hg] at hr1 hs2 hbb
        rw [show (brS W k).2.set (E + 1) true = (brS W (k + 1)).2 by rw [hsn]] at hs2
        have HS2 := Lib.hid hs2
        have HR := Lib.hid hr1
        have HBB := Lib.hid hbb
        have HSN := Lib.hid (show (brS W (k + 1)).1 = E + 1 by rw [hsn])
        clear hs1 hs2 hr0 hr1 hbb hsn hg hc0 HD hEq hbk Hcs hring hseen hb hsl
        generalize (brS W k).1 = d0 at *
        generalize (brS W k).2.getD (E + 1) false = z at *
        go_wp2
        go_roundw
        case rel => exact ⟨k + 1, by omega, by go_num, by rw [HSN.out]; go_num, HR, HS2, HBB⟩
        case measure => simp [intOf]; omega
    · obtain rfl : k = W := by omega
      have hring2 := hring.out
      rw [filled_done] at hring2
      have HR := Lib.hid hring2
      clear hring2
      go_wp2
      go_ret2
      exact ⟨_, rfl, Sw.of_owns HR.out (tab_len _ _), hb.out⟩
end Go.Proofs.Ytolmhnekfokpdac
