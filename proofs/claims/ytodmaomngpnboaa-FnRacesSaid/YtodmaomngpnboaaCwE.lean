/- Contracts: coins on a balance, the model: what is shown, which coin is heavy. -/
import Derived.Test.YtodmaomngpnboaaCwD
set_option linter.unusedVariables false
namespace Go.Proofs.Ytodmaomngpnboaa
open Go.RowKit

theorem own_snocC {w : World} {base : Nat} {e : TypeId} {v : Value} {k : Nat} {g : Nat → Int} (h : w.ownsRow base e 1 v (k + 1) ((tab k g).map (Value.int .i64) ++ [.int .i64 (g k)])) : w.ownsRow base e 1 v (k + 1) ((tab (k + 1) g).map (Value.int .i64)) := by
  rw [tab_succ, List.map_append]; exact h
set_option maxHeartbeats 2000000 in
theorem weighS_any (fs : List Int) (v : Value) (k cnt : Nat) (h : Int) (w : World) (hk : 1 ≤ k) (hk2 : k ≤ 27) (hc : cnt ≤ 4) (hf : fs.length = cnt * k) (h1 : -1 ≤ h) (h2 : h < k) (hS : Sl (Value.int .i64) 0 w v fs) :
    Calls Try.prog 89 #[.int .i64 (k : Int), v, .int .i64 h] w fun e w' => ∃ o, e = .returned o ∧ Sw (Value.int .i64) 0 w' o (wghL fs k cnt h) w.heap.size w'.heap.size ∧ Below w.heap.size w w' := by
  obtain ⟨i0, hi, hz0, hz1, hz2⟩ := info_parts (show (Try.prog.info? 2).map (fun i => (i.zero, i.size, i.bytes)) = some (some (.int .i64 0), 1, 8) by kernel_rfl)
  have hL8 : cnt * k ≤ 108 := Nat.mul_le_mul hc hk2
  obtain ⟨p, cap, rfl, hcl⟩ := hS
  obtain ⟨L, hL⟩ : ∃ L, L = fs.length := ⟨_, rfl⟩
  have HLc := Lib.hid (hL.trans hf)
  rw [← hL] at hcl ⊢
  have Hcl := Lib.hid hcl
  have hL1 : L ≤ 108 := by rw [hL, hf]; exact hL8
  have HG := Lib.hid (fun i => (show wghG fs k h i = if h < 0 then 0 else fs.getD (i * k + h.toNat) 0 from rfl))
  have HW : Hid (wghL fs k cnt h = tab cnt (wghG fs k h)) := Lib.hid rfl
  rw [HW.out]
  clear hcl hf hL hL8
  go_enter Try.func89, Try.ntmps89
  go_wp2
  go_loopw [7, 8] (fun out mv wr => ∃ i m : Nat, i ≤ cnt ∧ Hid (m = i * k) ∧ mv = .int .i64 (m : Int) ∧ wr.ownsRow w.heap.size 2 1 out i ((tab i (wghG fs k h)).map (Value.int .i64)) ∧ Hid (Below w.heap.size w wr)) (fun _ mv _ => L - (intOf mv).toNat)
  case atStart => exact ⟨0, 0, Nat.zero_le _, Lib.hid (by simp), rfl, own_zero w _ _ _ (Nat.le_refl _), Lib.hid ((Below.refl _ _).alloc (Nat.le_refl _) _)⟩
  case round =>
    obtain ⟨i, m, hi2, hm, rfl, hown, hb⟩ := hrel
    have Hown := Lib.hid hown
    have hsz := hb.out.size
    clear hown
    by_cases hlt : i < cnt
    · have hmk : m + k ≤ L := by
        rw [hm.out, HLc.out, ← Nat.succ_mul]; exact Nat.mul_le_mul_right k hlt
      have d1 : decide (m < L) = true := decide_eq_true (by omega)
      have hg := HG.out i
      by_cases hneg : h < 0
      · rw [if_pos hneg] at hg
        have HGi := Lib.hid hg
        have d2 : decide ((0 : Int) ≤ h) = false := decide_eq_false (by omega)
        clear hg
        go_wp2_with (at_builtin; refine wpList_append_own _ rfl _ _ 22 rfl w.heap.size 2 i0 (.int .i64 0) 1 8 (by kernel_rfl) hi hz0 hz1 hz2 rfl (by decide) _ _ _ rfl (Hown.out.alloc _) ⟨wr.heap.size, 0, none⟩ 1 1 [.int .i64 0] rfl rfl (cell_one_new _ _ _) (one_int _) (by unfold maxLen; omega) (by omega) (by simp; omega) ?_; intro v2 w2 hown2 hgrow2 hne2; clear hne2)
        rw [← HGi.out] at hown2
        have Hown2 := Lib.hid (own_snocC hown2)
        have Hb2 := Lib.hid ((hb.out.alloc hsz _).grown hgrow2 (by simp; omega) (fun b hb => (Hown.out.lt b hb).1))
        clear hown2 hgrow2
        go_wp2
        go_roundw
        case rel => exact ⟨i + 1, m + k, by omega, Lib.hid (by rw [hm.out, Nat.succ_mul]), by go_num, Hown2.out, Hb2⟩
        case measure => simp [intOf]; omega
      · obtain ⟨t, rfl⟩ : ∃ t : Nat, h = t := ⟨h.toNat, by omega⟩
        rw [if_neg hneg, Int.toNat_natCast, ← hm.out] at hg
        have HGi := Lib.hid hg
        obtain ⟨hcap, b, off, rfl, hbs, hcell⟩ := Hcl.out (by omega)
        have c1 := (hb.out.cell hbs).trans (hcell (m + t) (by omega))
        have d2 : decide ((0 : Int) ≤ (t : Int)) = true := decide_eq_true (by omega)
        have htk : t < k := by omega
        clear hg hcell hneg h1
        generalize fs.getD (m + t) 0 = x at *
        go_wp2_with (at_builtin; refine wpList_append_own _ rfl _ _ 22 rfl w.heap.size 2 i0 (.int .i64 0) 1 8 (by kernel_rfl) hi hz0 hz1 hz2 rfl (by decide) _ _ _ rfl (Hown.out.alloc _) ⟨wr.heap.size, 0, none⟩ 1 1 [.int .i64 x] rfl rfl (cell_one_new _ _ _) (one_int _) (by unfold maxLen; omega) (by omega) (by simp; omega) ?_; intro v2 w2 hown2 hgrow2 hne2; clear hne2)
        rw [← HGi.out] at hown2
        have Hown2 := Lib.hid (own_snocC hown2)
        have Hb2 := Lib.hid ((hb.out.alloc hsz _).grown hgrow2 (by simp; omega) (fun b hb => (Hown.out.lt b hb).1))
        clear hown2 hgrow2
        go_wp2
        go_roundw
        case rel => exact ⟨i + 1, m + k, by omega, Lib.hid (by rw [hm.out, Nat.succ_mul]), by go_num, Hown2.out, Hb2⟩
        case measure => simp [intOf]; omega
    · obtain rfl : cnt = i := by omega
      obtain rfl : L = m := HLc.out.trans hm.out.symm
      go_wp2
      go_ret
      exact ⟨_, rfl, Sw.of_owns Hown.out (tab_len _ _), hb.out⟩
end Go.Proofs.Ytodmaomngpnboaa
