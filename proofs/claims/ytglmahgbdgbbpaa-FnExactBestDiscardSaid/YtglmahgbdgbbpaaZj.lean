/- Contracts: hands of tiles, the model: full hands, FullWays. -/
import Derived.Test.YtglmahgbdgbbpaaZh
import Derived.Test.YtglmahgbdgbbpaaZi
set_option linter.unusedVariables false
namespace Go.Proofs.Ytglmahgbdgbbpaa
open Go.RowKit

theorem fromS_sum (l : List Int) : fromS l 9 = sumI l 9 := by
  simp only [fromS, sumI, Nat.reduceSub, Nat.sub_zero, Nat.sub_self]
  omega
theorem fwT_mod (l : List Int) (h : nineT l) (hs : sumI l 9 % 3 ≠ 2) : ∀ i, i ≤ 9 → fwT l i = 0
  | 0, _ => rfl
  | i + 1, hi => by
    rw [fwT, fwT_mod l h hs i (by omega), Int.zero_add]
    split
    · rename_i h2
      have hb := h.2 i (by omega)
      by_cases hg : grp 9 (l.set i (l.getD i 0 - 2)) = 0
      · exact hg
      · have h3 := grp_mod 9 _ (Nat.le_refl _) (nine_set h (by omega) (by omega)) hg
        rw [fromS_set l h.1 i _ (by omega) 9 (Nat.le_refl _), if_pos (by omega), fromS_sum] at h3
        omega
    · rfl
theorem sumI_nat (l : List Int) (h : nineT l) : ∃ s : Nat, sumI l 9 = (s : Int) ∧ s ≤ 36 := by
  have hb := h.2
  have : 0 ≤ sumI l 9 ∧ sumI l 9 ≤ 36 := by
    have h0 := hb 0 (by omega); have h1 := hb 1 (by omega); have h2 := hb 2 (by omega); have h3 := hb 3 (by omega); have h4 := hb 4 (by omega)
    have h5 := hb 5 (by omega); have h6 := hb 6 (by omega); have h7 := hb 7 (by omega); have h8 := hb 8 (by omega)
    simp only [sumI]
    omega
  exact ⟨(sumI l 9).toNat, by omega, by omega⟩
theorem one_facts {w1 : World} {g c2 lo hi : Nat} {l : List Int} (h : Sw (Value.int .i64) 0 w1 (.slice (some ⟨g, 0, none⟩) 9 c2) l lo hi) (h9 : l.length = 9) (i : Nat) (hil : i < 9) (x : Int) :
    w1.cell? ⟨g, i, none⟩ = some (.int .i64 (l.getD i 0)) ∧ w1.frozen? ⟨g, i, none⟩ = false ∧ Sw (Value.int .i64) 0 (w1.setCell ⟨g, i, none⟩ (.int .i64 x)) (.slice (some ⟨g, 0, none⟩) 9 c2) (l.set i x) lo hi ∧ lo ≤ g := by
  obtain ⟨h1, h2⟩ := h.at0 i (by omega)
  exact ⟨h1, h2, h.put0 i (by omega) x, (h.block (by omega)).1⟩
theorem lies_facts {l : List Int} {w : World} {b off : Nat} (h9 : l.length = 9) (hbs : b < w.heap.size) (hc : ∀ i, i < l.length → w.cell? ⟨b, off + i, none⟩ = some (.int .i64 (l.getD i 0))) (z : World) (hz : Below w.heap.size w z) :
    ∀ j u, (l.map (Value.int .i64))[j]? = some u → z.cell? (Addr.add ⟨b, off, none⟩ j) = some u := fun j u hj => by
  rw [List.getElem?_map] at hj
  cases hx : l[j]? with
  | none => rw [hx] at hj; cases hj
  | some x =>
    rw [hx] at hj
    cases hj
    have hjl := (List.getElem?_eq_some_iff.1 hx).1
    have := cell_keep hz (hc j hjl)
    rw [show l.getD j 0 = x by simp [List.getD, hx]] at this
    rw [Addr.add_mid]; exact this
set_option maxRecDepth 100000 in
set_option maxHeartbeats 4000000 in
theorem full_spec (l : List Int) (v : Value) (w : World) (h : nineT l) (hs : Sl (Value.int .i64) 0 w v l) :
    Calls Try.prog 66 #[v] w fun e w' => e = .returned (.int .i64 (fullT l)) ∧ Below w.heap.size w w' := by
  obtain ⟨i0, hi, hz0, hz1, hz2⟩ := info_parts (show (Try.prog.info? 2).map (fun i => (i.zero, i.size, i.bytes)) = some (some (.int .i64 0), 1, 8) by kernel_rfl)
  have HQ := Lib.hid (sumS_any l v w (by rw [h.1]; decide) (fun i hi => h.2 i (by rw [← h.1]; exact hi)) hs)
  have Hmod := Lib.hid (fwT_mod l h)
  obtain ⟨s, hs1, hs2⟩ := sumI_nat l h
  have HB := Lib.hid (fwT_bd l h)
  have Hy := Lib.hid h.2
  have H9 := Lib.hid h.1
  have HN := Lib.hid (fun (k : Nat) (hk : k < 9) (h2 : 2 ≤ l.getD k 0) => nine_set h hk (x := l.getD k 0 - 2) (by have := h.2 k hk; omega))
  have HT := Lib.hid (fun k => show fwT l (k + 1) = fwT l k + (if 2 ≤ l.getD k 0 then grp 9 (l.set k (l.getD k 0 - 2)) else 0) from rfl)
  have HT0 := Lib.hid (show fwT l 0 = 0 from rfl)
  have HG := Lib.hid (fun (l' : List Int) (u : Value) (z : World) (h' : nineT l') (hu : Sl (Value.int .i64) 0 z u l') => grp_spec 9 0 l' u z rfl h' hu)
  have HS := Lib.hid (fun (l' : List Int) (h' : nineT l') => grp_small 9 l' (Nat.le_refl _) h')
  unfold fullT
  obtain ⟨p, cap, rfl, hf⟩ := hs
  obtain ⟨hcap, b, off, rfl, hbs, hc⟩ := hf (by rw [h.1]; decide)
  have HC := Lib.hid (fun (z : World) (hz : Below w.heap.size w z) (i : Nat) (hi : i < 9) => show z.cell? ⟨b, off + i, none⟩ = some (.int .i64 (l.getD i 0)) from cell_keep hz (hc i (by rw [h.1]; exact hi)))
  have HNc0 := Lib.hid (lies_facts h.1 hbs hc)
  have HNl : Hid ((l.map (Value.int .i64)).length = 9 * 1) := Lib.hid (by rw [List.length_map, h.1])
  have HN1 : Hid (∀ t ∈ l.map (Value.int .i64), t.oneCell' = true) := Lib.hid (fun t ht => by
    obtain ⟨y, -, rfl⟩ := List.mem_map.1 ht; rfl)
  rw [h.1] at HQ ⊢
  rw [hs1] at Hmod HQ
  clear h hf hc hcap hs1
  generalize fwT l = F at *
  generalize grp 9 = G at *
  by_cases hm : (s : Int) % 3 = 2
  · have d0 : ((s : Int) % 3 != 2) = false := by rw [hm]; rfl
    clear Hmod
    go_enter Try.func66, Try.ntmps66
    go_wp2_with (go_at_call 68; (refine (HQ.out).mono ?_); rintro e w1 ⟨rfl, rfl⟩)
    go_loopw [3, 4] (fun sm i wr => ∃ k : Nat, k ≤ 9 ∧ i = .int .i64 (k : Int) ∧ sm = .int .i64 (F k) ∧ Hid (Below w.heap.size w wr)) (fun _ i _ => 9 - (intOf i).toNat)
    case atStart => exact ⟨0, Nat.zero_le _, rfl, by rw [HT0.out], Lib.hid (Below.refl _ _)⟩
    case round =>
      clear d0 hm hs2 HQ
      obtain ⟨k, hk, rfl, rfl, hbw⟩ := hrel
      have hszb := hbw.out.size
      obtain ⟨x0, x1⟩ := HB.out k hk
      have x2 : F k ≤ 5000 := by omega
      clear x1
      by_cases hlt : k < 9
      · have HT1 := Lib.hid (HT.out k)
        have HNk := Lib.hid (HN.out k hlt)
        obtain ⟨y0, y4⟩ := Hy.out k hlt
        have c1 := HC.out wr hbw.out k hlt
        have HWA : Hid (Below w.heap.size w (wr.alloc (.cells #[] 2))) := Lib.hid (hbw.out.alloc hszb _)
        have HNc := Lib.hid (HNc0.out _ HWA.out)
        have HAT := Lib.hid (fun (w1 : World) (g c2 lo hi : Nat) (h : Sw (Value.int .i64) 0 w1 (.slice (some ⟨g, 0, none⟩) 9 c2) l lo hi) => one_facts h H9.out k hlt (l.getD k 0 - 2))
        generalize l.getD k 0 = y at *
        generalize F k = x at *
        by_cases hy2 : 2 ≤ y
        · have HZ := HT1.out
          rw [if_pos hy2] at HZ
          have hn := HNk.out hy2
          have HG2 := Lib.hid (fun u z hu => HG.out _ u z hn hu)
          obtain ⟨z0, z1⟩ := HS.out _ hn
          have HZ1 := Lib.hid HZ
          have d2 : decide (y < 2) = false := decide_eq_false (by omega)
          clear hn HZ HNk HT1
          generalize l.set k (y - 2) = L2 at *
          generalize G L2 = gz at *
          go_wp2_with (first | (at_builtin; refine wpList_append_lies _ rfl _ _ 25 rfl wr.heap.size 2 i0 (.int .i64 0) 1 8 (by kernel_rfl) hi hz0 hz1 hz2 rfl (by decide) _ _ _ rfl (own_zeroT wr wr.heap.size _ (Nat.le_refl _)) ⟨b, off, none⟩ 9 cap (l.map (Value.int .i64)) rfl HNl.out HNc.out HN1.out (by decide) (by unfold maxLen; omega) (by omega) (by simp) _ rfl ?_; intro g c2 w1 hown hgrow hat hlt; obtain ⟨hsw, hbw1⟩ := clone_facts H9.out hown hgrow; clear hown hgrow hat hlt; obtain ⟨a1, a2, hsw3, hgl⟩ := HAT.out _ _ _ _ _ hsw; have HL3 := Lib.hid hsw3.sl; have HB3 := Lib.hid ((hbw.out.trans (hbw1.mono hbw.out.size)).setCell (p := ⟨g, k, none⟩) (Nat.le_trans hszb hgl) (Value.int .i64 (y - 2))); clear hsw hsw3 hbw1 hgl) | (go_at_call 97; (refine (HG2.out _ _ HL3.out).mono ?_); rintro e w3 ⟨rfl, hb⟩; have Hb := Lib.hid (HB3.out.trans (hb.mono HB3.out.size)); clear hb))
          go_roundw
          case rel => exact ⟨k + 1, hlt, by go_num, by rw [HZ1.out], Hb⟩
          case measure => simp [intOf]; omega
        · have HZ := HT1.out
          rw [if_neg hy2, Int.add_zero] at HZ
          have HZ1 := Lib.hid HZ
          have d2 : decide (y < 2) = true := decide_eq_true (by omega)
          clear HZ HNk HT1
          go_wp2
          go_roundw
          case rel => exact ⟨k + 1, hlt, by go_num, by rw [HZ1.out], hbw⟩
          case measure => simp [intOf]; omega
      · obtain rfl : k = 9 := by omega
        go_wp2
        go_ret
        exact ⟨rfl, hbw.out⟩
  · have d0 : ((s : Int) % 3 != 2) = true := by rw [bne_iff_ne]; exact hm
    rw [Hmod.out hm 9 (Nat.le_refl _)]
    clear Hmod hm
    go_enter Try.func66, Try.ntmps66
    go_wp2_with (go_at_call 68; (refine (HQ.out).mono ?_); rintro e w1 ⟨rfl, rfl⟩)
    go_ret
    exact ⟨rfl, Below.refl _ _⟩
set_option maxHeartbeats 2000000 in
theorem spec_FullWays (fs : List Int) (v : Value) (w : World) (hn : fs.length ≤ 1048576) (h : Sl (Value.int .i64) 0 w v fs) :
    Calls Try.prog 29 #[v] w fun e w' => e = .returned (.tuple #[.int .i64 (res_FullWays fs), .bool (ok_FullWays fs)]) ∧ Below w.heap.size w w' := by
  have H := Lib.hid (tiles_spec fs v w hn h)
  have HF := Lib.hid (fun (hb : tileB fs = true) => full_spec fs v w (nine_of hb) h)
  unfold res_FullWays ok_FullWays
  obtain ⟨p, cap, rfl, -⟩ := h
  generalize fullT fs = T at *
  cases hb : tileB fs
  · rw [hb] at H
    rw [if_neg Bool.false_ne_true]
    clear HF hb
    generalize fs.length = n at *
    go_enter Try.func29, Try.ntmps29
    go_wp2_with (go_at_call 64; (refine (H.out).mono ?_); rintro e w1 ⟨rfl, rfl⟩)
    go_ret2
    exact ⟨rfl, Below.refl _ _⟩
  · have HF2 := Lib.hid (HF.out hb)
    rw [hb] at H
    rw [if_pos rfl]
    clear HF hb
    generalize fs.length = n at *
    go_enter Try.func29, Try.ntmps29
    go_wp2_with (first | (go_at_call 64; (refine (H.out).mono ?_); rintro e w1 ⟨rfl, rfl⟩) | (go_at_call 66; (refine (HF2.out).mono ?_); rintro e w1 ⟨rfl, hb⟩))
    go_ret2
    exact ⟨rfl, hb⟩
end Go.Proofs.Ytglmahgbdgbbpaa
