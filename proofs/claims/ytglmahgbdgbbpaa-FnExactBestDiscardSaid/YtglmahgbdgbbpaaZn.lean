/- Contracts: BestDiscard, the model. -/
import Derived.Test.YtglmahgbdgbbpaaZo
set_option linter.unusedVariables false
namespace Go.Proofs.Ytglmahgbdgbbpaa
open Go.RowKit

set_option maxRecDepth 100000 in
set_option maxHeartbeats 8000000 in
theorem spec_BestDiscard (fs : List Int) (v : Value) (w : World) (hn : fs.length ≤ 1048576) (h : Sl (Value.int .i64) 0 w v fs) :
    Calls Try.prog 33 #[v] w fun e w' => e = .returned (.tuple #[.int .i64 (res_BestDiscard fs), .int .i64 (res2_BestDiscard fs), .bool (ok_BestDiscard fs)]) ∧ Below w.heap.size w w' := by
  have H := Lib.hid (tiles_spec fs v w hn h)
  have HSe := Lib.hid (fun (hb : tileB fs = true) => show fs.length = 9 ∧ nineT fs from ⟨(tileB_at hb).1, nine_of hb⟩)
  have HQ := Lib.hid (fun (hb : tileB fs = true) => sumS_any fs v w (by have := (tileB_at hb).1; omega) (tileB_at hb).2.1 h)
  unfold res_BestDiscard res2_BestDiscard ok_BestDiscard
  obtain ⟨p, cap, rfl, hf⟩ := h
  cases hb : tileB fs
  · rw [hb] at H
    rw [Bool.false_and, if_neg Bool.false_ne_true, if_neg Bool.false_ne_true]
    clear HSe HQ hb hf
    generalize fs.length = n at *
    go_enter Try.func33, Try.ntmps33
    go_wp2_with (go_at_call 64; (refine (H.out).mono ?_); rintro e w1 ⟨rfl, rfl⟩)
    go_ret3
    exact ⟨rfl, Below.refl _ _⟩
  · obtain ⟨h9, hn9⟩ := HSe.out hb
    have HQ2 := Lib.hid (HQ.out hb)
    rw [hb] at H
    obtain ⟨s, hs2, hs3⟩ := sumI_nat fs hn9
    obtain ⟨hcap, b, off, rfl, hbs, hc⟩ := hf (by rw [h9]; decide)
    have HC := Lib.hid (fun (z : World) (hz : Below w.heap.size w z) (i : Nat) (hi : i < 9) => show z.cell? ⟨b, off + i, none⟩ = some (.int .i64 (fs.getD i 0)) from cell_keep hz (hc i (by rw [h9]; exact hi)))
    have HNc0 := Lib.hid (lies_facts h9 hbs hc)
    have HNf := Lib.hid hn9
    have H9 := Lib.hid h9
    rw [h9] at H HQ2 ⊢
    rw [hs2] at HQ2 ⊢
    clear HSe HQ hb hf hc hcap h9 hn9 hs2 hn
    obtain ⟨l, hl⟩ : ∃ l, l = fs := ⟨_, rfl⟩
    rw [← hl] at HC HNc0 HNf H9 ⊢
    clear hl fs
    by_cases hm : (s : Int) % 3 = 2
    · rw [decide_eq_true hm, if_pos (by rfl), if_pos (by rfl)]
      have d0 : ((s : Int) % 3 != 2) = false := by rw [hm]; rfl
      obtain ⟨i0, hi, hz0, hz1, hz2⟩ := info_parts (show (Try.prog.info? 2).map (fun i => (i.zero, i.size, i.bytes)) = some (some (.int .i64 0), 1, 8) by kernel_rfl)
      have HF := Lib.hid (fun (l' : List Int) (u : Value) (z : World) (h' : nineT l') (hu : Sl (Value.int .i64) 0 z u l') => waits_spec l' u z h' hu)
      have Hy := Lib.hid HNf.out.2
      have HN := Lib.hid (fun (k : Nat) (hk : k < 9) (h2 : l.getD k 0 ≠ 0) => nine_set HNf.out hk (x := l.getD k 0 - 1) (by have := HNf.out.2 k hk; omega))
      have HT := Lib.hid (fun k => show bestT (-1) l (k + 1) = if l.getD k 0 = 0 then bestT (-1) l k else if (bestT (-1) l k).2 < ((waitT (l.set k (l.getD k 0 - 1)) 9).length : Int) then ((k : Int), ((waitT (l.set k (l.getD k 0 - 1)) 9).length : Int)) else bestT (-1) l k from rfl)
      have HT0 := Lib.hid (show bestT (-1) l 0 = (-1, -1) from rfl)
      have HNl : Hid ((l.map (Value.int .i64)).length = 9 * 1) := Lib.hid (by rw [List.length_map, H9.out])
      have HN1 : Hid (∀ t ∈ l.map (Value.int .i64), t.oneCell' = true) := Lib.hid (fun t ht => by
        obtain ⟨y, -, rfl⟩ := List.mem_map.1 ht; rfl)
      generalize bestT (-1) l = B at *
      clear hm hs3 HNf
      go_enter Try.func33, Try.ntmps33
      go_wp2_with (first | (go_at_call 64; (refine (H.out).mono ?_); rintro e w1 ⟨rfl, rfl⟩) | (go_at_call 68; (refine (HQ2.out).mono ?_); rintro e w3 ⟨rfl, rfl⟩))
      go_loopw [5, 6, 7] (fun a c i wr => ∃ k : Nat, k ≤ 9 ∧ i = .int .i64 (k : Int) ∧ a = .int .i64 (B k).1 ∧ c = .int .i64 (B k).2 ∧ Hid (Below w.heap.size w wr)) (fun _ _ i _ => 9 - (intOf i).toNat)
      case atStart => exact ⟨0, Nat.zero_le _, rfl, by rw [HT0.out], by rw [HT0.out], Lib.hid (Below.refl _ _)⟩
      case round =>
        clear d0 H HQ2
        obtain ⟨k, hk, rfl, rfl, rfl, hbw⟩ := hrel
        have hszb := hbw.out.size
        by_cases hlt : k < 9
        · have HTk := Lib.hid (HT.out k)
          have HNk := Lib.hid (HN.out k hlt)
          obtain ⟨y0, y4⟩ := Hy.out k hlt
          have c1 := HC.out wr hbw.out k hlt
          have HWA : Hid (Below w.heap.size w (wr.alloc (.cells #[] 2))) := Lib.hid (hbw.out.alloc hszb _)
          have HNc := Lib.hid (HNc0.out _ HWA.out)
          have HAT := Lib.hid (fun (w1 : World) (g c2 lo hi : Nat) (h : Sw (Value.int .i64) 0 w1 (.slice (some ⟨g, 0, none⟩) 9 c2) l lo hi) => one_facts h H9.out k hlt (l.getD k 0 - 1))
          generalize l.getD k 0 = y at *
          generalize B k = q at *
          obtain ⟨x, m⟩ := q
          by_cases hy : y = 0
          · have HZ := HTk.out
            rw [if_pos hy] at HZ
            have HZ2 := Lib.hid HZ
            subst hy
            clear HZ HTk HNk HWA
            go_wp2
            go_roundw
            case rel => exact ⟨k + 1, by omega, by go_num, by rw [HZ2.out], by rw [HZ2.out], hbw⟩
            case measure => simp [intOf]; omega
          · have hn := HNk.out hy
            have HF2 := Lib.hid (fun u z hu => HF.out _ u z hn hu)
            have HZ := HTk.out
            rw [if_neg hy] at HZ
            have d1 : (y == 0) = false := by rw [beq_eq_false_iff_ne]; exact hy
            clear hn HNk HTk hy HWA
            generalize l.set k (y - 1) = L2 at *
            generalize waitT L2 9 = V at *
            generalize hvn : V.length = n at *
            have Hvn := Lib.hid hvn
            clear hvn
            by_cases hp : m < (n : Int)
            · rw [if_pos hp] at HZ
              have HZ3 := Lib.hid HZ
              have d2 : decide (m < (n : Int)) = true := decide_eq_true hp
              clear HZ hp
              go_wp2_with (first | (at_builtin; refine wpList_append_lies _ rfl _ _ 25 rfl wr.heap.size 2 i0 (.int .i64 0) 1 8 (by kernel_rfl) hi hz0 hz1 hz2 rfl (by decide) _ _ _ rfl (own_zeroT wr wr.heap.size _ (Nat.le_refl _)) ⟨b, off, none⟩ 9 cap (l.map (Value.int .i64)) rfl HNl.out HNc.out HN1.out (by decide) (by unfold maxLen; omega) (by omega) (by simp) _ rfl ?_; intro g c2 w1 hown hgrow hat hlt; obtain ⟨hsw, hbw1⟩ := clone_facts H9.out hown hgrow; clear hown hgrow hat hlt; obtain ⟨a1, a2, hsw3, hgl⟩ := HAT.out _ _ _ _ _ hsw; have HL3 := Lib.hid hsw3.sl; have HX1 := Lib.hid (hbw1.setCell (p := ⟨g, k, none⟩) hgl (Value.int .i64 (y - 1))); clear hsw hsw3 hbw1 hgl) | (go_at_call 69; (refine (HF2.out _ _ HL3.out).mono ?_); rintro e w4 ⟨r, rfl, ⟨p2, cap2, rfl, -⟩, hb⟩; rw [Hvn.out]; have HX4 := Lib.hid (HX1.out.trans (hb.mono HX1.out.size)); clear hb))
              go_roundw
              case rel => exact ⟨k + 1, by omega, by go_num, by rw [HZ3.out], by rw [HZ3.out], Lib.hid (hbw.out.trans (HX4.out.mono hszb))⟩
              case measure => simp [intOf]; omega
            · rw [if_neg hp] at HZ
              have HZ3 := Lib.hid HZ
              have d2 : decide (m < (n : Int)) = false := decide_eq_false hp
              clear HZ hp
              go_wp2_with (first | (at_builtin; refine wpList_append_lies _ rfl _ _ 25 rfl wr.heap.size 2 i0 (.int .i64 0) 1 8 (by kernel_rfl) hi hz0 hz1 hz2 rfl (by decide) _ _ _ rfl (own_zeroT wr wr.heap.size _ (Nat.le_refl _)) ⟨b, off, none⟩ 9 cap (l.map (Value.int .i64)) rfl HNl.out HNc.out HN1.out (by decide) (by unfold maxLen; omega) (by omega) (by simp) _ rfl ?_; intro g c2 w1 hown hgrow hat hlt; obtain ⟨hsw, hbw1⟩ := clone_facts H9.out hown hgrow; clear hown hgrow hat hlt; obtain ⟨a1, a2, hsw3, hgl⟩ := HAT.out _ _ _ _ _ hsw; have HL3 := Lib.hid hsw3.sl; have HX1 := Lib.hid (hbw1.setCell (p := ⟨g, k, none⟩) hgl (Value.int .i64 (y - 1))); clear hsw hsw3 hbw1 hgl) | (go_at_call 69; (refine (HF2.out _ _ HL3.out).mono ?_); rintro e w4 ⟨r, rfl, ⟨p2, cap2, rfl, -⟩, hb⟩; rw [Hvn.out]; have HX4 := Lib.hid (HX1.out.trans (hb.mono HX1.out.size)); clear hb))
              go_roundw
              case rel => exact ⟨k + 1, by omega, by go_num, by rw [HZ3.out], by rw [HZ3.out], Lib.hid (hbw.out.trans (HX4.out.mono hszb))⟩
              case measure => simp [intOf]; omega
        · obtain rfl : k = 9 := by omega
          go_wp2
          go_ret3
          exact ⟨rfl, hbw.out⟩
    · rw [decide_eq_false hm, if_neg (by decide), if_neg (by decide)]
      have d0 : ((s : Int) % 3 != 2) = true := by rw [bne_iff_ne]; exact hm
      clear hm hs3 HNf
      go_enter Try.func33, Try.ntmps33
      go_wp2_with (first | (go_at_call 64; (refine (H.out).mono ?_); rintro e w1 ⟨rfl, rfl⟩) | (go_at_call 68; (refine (HQ2.out).mono ?_); rintro e w3 ⟨rfl, rfl⟩))
      go_ret3
      exact ⟨rfl, Below.refl _ _⟩
end Go.Proofs.Ytglmahgbdgbbpaa
