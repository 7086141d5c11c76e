/- Contracts: hands of tiles, the program: groups. -/
import Derived.Test.YtglmahgbdgbbpaaZe
set_option linter.unusedVariables false
namespace Go.Proofs.Ytglmahgbdgbbpaa
open Go.RowKit

theorem trT_bd (f : Nat) (l : List Int) (k : Nat) (r : Int) (hf : f ≤ 9) (h : nineT l) (hr : 0 ≤ r) : 0 ≤ trT (grp f) l k r ∧ trT (grp f) l k r ≤ 512 := by
  unfold trT
  cases e : rowsT l k r with
  | none => exact (show (0 : Int) ≤ 0 ∧ (0 : Int) ≤ 512 by decide)
  | some l' => exact grp_small f l' hf (rowsT_nine h hr e)
theorem rowsT_some {l l' : List Int} {k : Nat} {r : Int} (e : rowsT l k r = some l') (h : nineT l) (hr : 0 ≤ r) : trT = trT ∧ l'.length = 9 := ⟨rfl, (rowsT_nine h hr e).1⟩
theorem wT_bd (f : Nat) (l : List Int) (k : Nat) (hf : f ≤ 9) (h : nineT l) : ∀ t : Nat, 3 * (t : Int) ≤ l.getD k 0 + 3 → 0 ≤ wT (grp f) l k t ∧ wT (grp f) l k t ≤ 512 * t
  | 0, _ => ⟨Int.le_refl _, Int.le_refl _⟩
  | t + 1, ht => by
    have h1 := wT_bd f l k hf h t (by omega)
    have h2 := trT_bd f l k (l.getD k 0 - 3 * t) hf h (by omega)
    show 0 ≤ wT (grp f) l k t + trT (grp f) l k (l.getD k 0 - 3 * t) ∧ wT (grp f) l k t + trT (grp f) l k (l.getD k 0 - 3 * t) ≤ _
    omega
set_option maxRecDepth 100000 in
set_option maxHeartbeats 4000000 in
theorem grp_impl : ∀ (f k : Nat) (l : List Int) (w : World), k + f = 9 → nineT l →
    Calls Try.prog 98 #[hv l, .int .i64 (k : Int)] w fun e w' => e = .returned (.int .i64 (grp f l)) ∧ Below w.heap.size w w'
  | 0, k, l, w, hk, h => by
    obtain rfl : k = 9 := by omega
    have HW : Hid (Below w.heap.size w (w.alloc (.cells ((l).map (Value.int .i64)).toArray 59))) := Lib.hid ((Below.refl _ w).alloc (Nat.le_refl _) _)
    unfold hv
    clear h hk
    go_enter Try.func98, Try.ntmps98
    go_wp2
    go_ret
    exact ⟨rfl, HW.out⟩
  | f + 1, k, l, w, hk, h => by
    have hk9 : k < 9 := by omega
    have hy := h.2 k hk9
    have HR := Lib.hid (fun (r : Int) (z : World) (r0 : 0 ≤ r) (r4 : r ≤ 4) => rows_impl l k r z h hk9 r0 r4)
    have HG := Lib.hid (fun (l' : List Int) (z : World) (h' : nineT l') => grp_impl f (k + 1) l' z (by omega) h')
    have HN := Lib.hid (fun (r : Int) (l' : List Int) (r0 : 0 ≤ r) (e : rowsT l k r = some l') => rowsT_nine h r0 e)
    have HS := Lib.hid (fun (l' : List Int) (h' : nineT l') => grp_small f l' (by omega) h')
    have HB := Lib.hid (wT_bd f l k (by omega) h)
    have HT := Lib.hid (fun t : Nat => show wT (grp f) l k (t + 1) = wT (grp f) l k t + trT (grp f) l k (l.getD k 0 - 3 * t) from rfl)
    have HT0 := Lib.hid (show wT (grp f) l k 0 = 0 from rfl)
    have e0 : grp (f + 1) l = wT (grp f) l k (nT (l.getD k 0)) := by
      show wT (grp f) l (8 - f) (nT (l.getD (8 - f) 0)) = _
      rw [show 8 - f = k by omega]
    rw [e0]
    have HE1 := Lib.hid (fun (r : Int) (e : rowsT l k r = none) => show trT (grp f) l k r = 0 by unfold trT; rw [e])
    have HE2 := Lib.hid (fun (r : Int) (l' : List Int) (e : rowsT l k r = some l') => show trT (grp f) l k r = grp f l' by unfold trT; rw [e])
    have HB0 : Hid (Bk (w.alloc (.cells ((l).map (Value.int .i64)).toArray 59)) w.heap.size l) := Lib.hid (Bk.new w l)
    have HW : Hid (Below w.heap.size w (w.alloc (.cells ((l).map (Value.int .i64)).toArray 59))) := Lib.hid ((Below.refl _ w).alloc (Nat.le_refl _) _)
    have c0 := HB0.out.cell k (by rw [h.1]; exact hk9)
    have H9 := Lib.hid h.1
    have d0 : ((k : Int) == 9) = false := by rw [beq_eq_false_iff_ne]; omega
    have hn1 : nT (l.getD k 0) = if l.getD k 0 < 3 then 1 else 2 := rfl
    unfold hv at *
    clear e0 h
    generalize hy0 : l.getD k 0 = y at *
    generalize hn0 : nT y = n at *
    have hn1 : (y < 3 → n = 1) ∧ (¬ y < 3 → n = 2) := by
      constructor
      · intro hh; rw [hn1, if_pos hh]
      · intro hh; rw [hn1, if_neg hh]
    obtain ⟨y0, y4⟩ := hy
    clear hy0 hn0
    rename_i hn2
    clear hn2
    generalize wT (grp f) l k = Wt at *
    generalize trT (grp f) l k = Tr at *
    generalize grp f = G at *
    go_enter Try.func98, Try.ntmps98
    go_wp2
    go_loopw [5, 6] (fun s i wr => ∃ t : Nat, t ≤ n ∧ i = .int .i64 (y - 3 * t) ∧ s = .int .i64 (Wt t) ∧ Hid (Bk wr w.heap.size l) ∧ Hid (Below w.heap.size w wr)) (fun _ i _ => (intOf i + 3).toNat)
    case atStart => exact ⟨0, Nat.zero_le _, by rw [show y - 3 * ((0 : Nat) : Int) = y by omega], by rw [HT0.out], HB0, HW⟩
    case round =>
      obtain ⟨t, ht, rfl, rfl, hb0, hbw⟩ := hrel
      have hsz := hb0.out.lt
      obtain ⟨x0, x1⟩ := HB.out t (by omega)
      have x2 : Wt t ≤ 2000 := by omega
      by_cases hlt : t < n
      · have r0 : 0 ≤ y - 3 * (t : Int) := by omega
        have r4 : y - 3 * (t : Int) ≤ 4 := by omega
        have HT1 := Lib.hid (HT.out t)
        have HT3 : Hid (y - 3 * (t : Int) - 3 = y - 3 * ((t + 1 : Nat) : Int)) := Lib.hid (by omega)
        have HR2 := Lib.hid (fun z => HR.out _ z r0 r4)
        have HN2 := Lib.hid (fun l' => HN.out _ l' r0)
        have HE3 := Lib.hid (HE1.out (y - 3 * (t : Int)))
        have HE4 := Lib.hid (HE2.out (y - 3 * (t : Int)))
        have Hlt := Lib.hid hlt
        clear x1
        generalize y - 3 * (t : Int) = r at *
        generalize Wt t = x at *
        have d2 : decide (0 ≤ r) = true := decide_eq_true r0
        cases e : rowsT l k r with
        | none =>
          have HZ := Lib.hid (HE3.out e)
          rw [e] at HR2
          clear e
          go_wp2_with (first | (refine wpList_load_mid (op := ⟨some 19, .load 59 _, _, _, _, _⟩) rfl 59 (.tmp 2) rfl (w.heap.size) 0 rfl (((l).map (Value.int .i64))) _ hb0.out.range undTH rfl (iL H9.out) ?_) | (go_at_call 109; (refine (HR2.out _).mono ?_); rintro e w1 ⟨rfl, hb⟩; have Hb := Lib.hid (hbw.out.trans (hb.mono hbw.out.size)); have HK := Lib.hid (hb0.out.later hb hsz); have hsz1 := hb.size; have HB1 := Lib.hid (Bk.new w1 zs9); clear hb) | (refine wpList_store_row (o := ⟨none, .store 59 _ _, _, _, _, _⟩) rfl 59 (.tmp 7) (.tmp 23) rfl (w1.heap.size) (((zs9).map (Value.int .i64)).toArray) rfl rfl 59 _ HB1.out (iA rfl) (sA rfl rfl) (one_all zs9) ?_))
          go_roundw
          case rel => exact ⟨t + 1, Hlt.out, by rw [← HT3.out], by rw [HT1.out, HZ.out, Int.add_zero], Lib.hid (HK.out.later (below_setRow ((Below.refl w1.heap.size w1).alloc (Nat.le_refl _) _) (Nat.le_refl _) _) (by omega)), Lib.hid (below_setRow (Hb.out.alloc (by omega) _) (by omega) _)⟩
          case measure => simp [intOf]; omega
        | some l' =>
          have HZ := Lib.hid (HE4.out l' e)
          have hn9 := HN2.out l' e
          have HG2 := Lib.hid (fun z => HG.out l' z hn9)
          obtain ⟨z0, z1⟩ := HS.out l' hn9
          have H9' := Lib.hid hn9.1
          rw [e] at HR2
          clear e hn9
          generalize G l' = gz at *
          go_wp2_with (first | (refine wpList_load_mid (op := ⟨some 19, .load 59 _, _, _, _, _⟩) rfl 59 (.tmp 2) rfl (w.heap.size) 0 rfl (((l).map (Value.int .i64))) _ hb0.out.range undTH rfl (iL H9.out) ?_) | (go_at_call 109; (refine (HR2.out _).mono ?_); rintro e w1 ⟨rfl, hb⟩; have Hb := Lib.hid (hbw.out.trans (hb.mono hbw.out.size)); have HK := Lib.hid (hb0.out.later hb hsz); have hsz1 := hb.size; have HB1 := Lib.hid (Bk.new w1 zs9); have HB2 : Hid (Bk ((w1.alloc (.cells #[.int .i64 0, .int .i64 0, .int .i64 0, .int .i64 0, .int .i64 0, .int .i64 0, .int .i64 0, .int .i64 0, .int .i64 0] 59)).setRow w1.heap.size ((l').map (Value.int .i64)).toArray) w1.heap.size l') := Lib.hid HB1.out.row; have hsz2 := HB2.out.lt; have HBW : Hid (Below w.heap.size w ((w1.alloc (.cells #[.int .i64 0, .int .i64 0, .int .i64 0, .int .i64 0, .int .i64 0, .int .i64 0, .int .i64 0, .int .i64 0, .int .i64 0] 59)).setRow w1.heap.size ((l').map (Value.int .i64)).toArray)) := Lib.hid (below_setRow (Hb.out.alloc (by omega) _) (by omega) _); have HK2 : Hid (Bk ((w1.alloc (.cells #[.int .i64 0, .int .i64 0, .int .i64 0, .int .i64 0, .int .i64 0, .int .i64 0, .int .i64 0, .int .i64 0, .int .i64 0] 59)).setRow w1.heap.size ((l').map (Value.int .i64)).toArray) w.heap.size l) := Lib.hid (HK.out.later (below_setRow ((Below.refl w1.heap.size w1).alloc (Nat.le_refl _) _) (Nat.le_refl _) _) (by omega)); clear hb) | (refine wpList_store_row (o := ⟨none, .store 59 _ _, _, _, _, _⟩) rfl 59 (.tmp 7) (.tmp 23) rfl (w1.heap.size) (((l').map (Value.int .i64)).toArray) rfl rfl 59 _ HB1.out (iA H9'.out) (sA rfl H9'.out) (one_all l') ?_) | (refine wpList_load_mid (op := ⟨some 27, .load 59 _, _, _, _, _⟩) rfl 59 (.tmp 7) rfl (w1.heap.size) 0 rfl (((l').map (Value.int .i64))) _ HB2.out.range undTH rfl (iL H9'.out) ?_) | (go_at_call 98; (refine (HG2.out _).mono ?_); rintro e w2 ⟨rfl, hb⟩; have Hb3 := Lib.hid (HBW.out.trans (hb.mono HBW.out.size)); have HK3 := Lib.hid (HK2.out.later hb (by omega)); clear hb))
          go_roundw
          case rel => exact ⟨t + 1, Hlt.out, by rw [← HT3.out], by rw [HT1.out, HZ.out], HK3, Hb3⟩
          case measure => simp [intOf]; omega
      · obtain rfl : t = n := by omega
        have d2 : decide (0 ≤ y - 3 * (t : Int)) = false := decide_eq_false (by omega)
        clear x1
        go_wp2
        go_ret
        exact ⟨rfl, hbw.out⟩
end Go.Proofs.Ytglmahgbdgbbpaa
