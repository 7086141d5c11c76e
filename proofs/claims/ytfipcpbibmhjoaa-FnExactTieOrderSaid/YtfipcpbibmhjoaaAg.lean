/- Contracts: the order of players, the model's. -/
import Derived.Test.YtfipcpbibmhjoaaAf
import Derived.BigQuiet
set_option linter.unusedVariables false
namespace Go.Proofs.Ytfipcpbibmhjoaa
open Go.RowKit
def lenV : Value → Nat
  | .slice _ n _ => n
  | _ => 0
set_option maxRecDepth 100000 in
set_option maxHeartbeats 8000000 in
theorem tie_spec (s o : List Int) (vs vo : Value) (n : Nat) (w : World) (hs : Sl (Value.int .i64) 0 w vs s) (ho : Sl (Value.int .i64) 0 w vo o) (hn : s.length = n) (hl : o.length = n) (h2 : 2 ≤ n) (h16 : n ≤ 16) (ga : allB 0 1000 s = true) (gb : allB 0 1000000 o = true) :
    Calls Try.prog 55 #[vs, vo] w fun e w' => ∃ r l, e = .returned (.tuple #[r, .bool true]) ∧ Ord s o n l ∧ Sw (Value.int .i64) 0 w' r (rowI l) w.heap.size w'.heap.size ∧ Below w.heap.size w w' := by
  obtain ⟨i0, hi, hz0, hz1, hz2⟩ := info_parts (show (Try.prog.info? 2).map (fun i => (i.zero, i.size, i.bytes)) = some (some (.int .i64 0), 1, 8) by kernel_rfl)
  obtain ⟨j0, hj, hj0, hj1, hj2⟩ := info_parts (show (Try.prog.info? 4).map (fun i => (i.zero, i.size, i.bytes)) = some (some (.bool false), 1, 1) by kernel_rfl)
  obtain ⟨p1, cap1, rfl, hf1⟩ := hs
  obtain ⟨hcap1, b1, off1, rfl, hbs1, hc1⟩ := hf1 (by omega)
  obtain ⟨p2, cap2, rfl, hf2⟩ := ho
  obtain ⟨hcap2, b2, off2, rfl, hbs2, hc2⟩ := hf2 (by omega)
  have HI1 := Lib.hid (fun k (hk : k < s.length) z => inT_any (rB_at ga k hk) z)
  have HI2 := Lib.hid (fun k (hk : k < o.length) z => inT_any (rB_at gb k hk) z)
  have HC1 := Lib.hid hc1
  have HC2 := Lib.hid hc2
  clear hf1 hf2 hc1 hc2 ga gb
  rw [hn] at *
  rw [hl] at *
  clear hn hl
  go_enter Try.func55, Try.ntmps55
  go_wp2
  go_loopw [28] (fun iv wr => ∃ k : Nat, k ≤ n ∧ iv = .int .i64 (k : Int) ∧ Hid (w = wr)) (fun iv _ => n - (intOf iv).toNat)
  case atStart => exact ⟨0, Nat.zero_le _, rfl, Lib.hid rfl⟩
  case round =>
    obtain ⟨k, hk, rfl, hw⟩ := hrel
    obtain rfl := hw.out
    by_cases hlt : k < n
    · have c1 := HC1.out k hlt
      have c2 := HC2.out k hlt
      have HA := Lib.hid (HI1.out k hlt)
      have HBo := Lib.hid (HI2.out k hlt)
      generalize s.getD k 0 = x1 at *
      generalize o.getD k 0 = x2 at *
      go_wp2_with (first | (go_at_call 79; (with_reducible refine (HA.out _).mono ?_); rintro e w' ⟨rfl, rfl⟩) | (go_at_call 79; (with_reducible refine (HBo.out _).mono ?_); rintro e w' ⟨rfl, rfl⟩))
      go_roundw
      case rel => exact ⟨k + 1, by omega, by go_num, Lib.hid (by first | trivial | rfl)⟩
      case measure => simp [intOf]; omega
    · obtain rfl : k = n := by omega
      obtain ⟨n, rfl⟩ : ∃ z, z = k := ⟨_, rfl⟩
      clear HI1 HI2 hlt hk
      go_wp2_with (at_make; refine wpList_make_full _ rfl _ _ 62 rfl w.heap.size 4 j0 (.bool false) 1 (by kernel_rfl) hj hj0 hj1 .i64 .i64 n n n rfl rfl rfl rfl (by rw [hj2]; omega) (by unfold maxLen; omega) (Nat.le_refl _) ?_; intro w1 hown hgrow)
      have hbel : Below w.heap.size w w1 := (Below.refl _ w).grown hgrow (Nat.le_refl _) (by simp)
      have hT1 : w.heap.size < w1.heap.size := (hown.lt w.heap.size rfl).2
      have hcl : (madeCells (Value.bool false).cells (n * 1)).toList = (flT n []).map Value.bool := by
        rw [flT_nil, Nat.mul_one, List.map_replicate]
        exact made1 _ n
      rw [hcl] at hown
      have HT0 := Lib.hid (hown.alloc (.cells #[] 2))
      have HO0 := Lib.hid (show (w1.alloc (.cells #[] 2)).ownsRow (w.heap.size + 1) 2 1 (.slice (some ⟨w1.heap.size, 0, none⟩) 0 0) 0 ((rowI []).map (Value.int .i64)) from own_zeroK w1 (w.heap.size + 1) 2 hT1)
      have HB0 := Lib.hid (hbel.alloc (Nat.le_of_lt hT1) (.cells #[] 2))
      clear hown hgrow hbel hcl
      go_loopw [9] (fun ov wr => ∃ (m : Nat) (l : List Nat) (po : Option Addr) (capo : Nat), m ≤ n ∧ ov = .slice po m capo ∧ Hid (l.length = m) ∧ Hid (l.Pairwise (Bef s o)) ∧ Hid (∀ x ∈ l, x < n) ∧ Hid (∀ x ∈ l, ∀ y, y < n → y ∉ l → Bef s o x y) ∧ Hid (wr.ownsRow (w.heap.size + 1) 2 1 (.slice po m capo) m ((rowI l).map (Value.int .i64))) ∧ Hid (wr.ownsRow w.heap.size 4 1 (.slice (some ⟨w.heap.size, 0, none⟩) n n) n ((flT n l).map Value.bool)) ∧ Hid (Below w.heap.size w wr)) (fun ov _ => n - lenV ov)
      case atStart => exact ⟨0, [], _, _, Nat.zero_le _, rfl, Lib.hid rfl, Lib.hid List.Pairwise.nil, Lib.hid (fun x h => absurd h (by simp)), Lib.hid (fun x h => absurd h (by simp)), HO0, HT0, HB0⟩
      case round =>
        obtain ⟨m, l, po, capo, hle, rfl, Hlm, HP1, HP2, HP3, HO, HT, HB⟩ := hrel
        by_cases hlt : m < n
        · obtain ⟨wo, rfl⟩ : ∃ z, z = wr := ⟨_, rfl⟩
          clear HT0 HO0 HB0
          go_wp2
          generalize hvo : Value.slice po m capo = vo
          have Hvo := Lib.hid hvo
          clear hvo
          go_loopw [10, 55] (fun bv iv wr => ∃ (k : Nat) (bz : Int), k ≤ n ∧ iv = .int .i64 (k : Int) ∧ bv = .int .i64 bz ∧ Hid (BestAt s o l k bz) ∧ Hid (Drawn wo wr)) (fun _ iv _ => n - (intOf iv).toNat)
          case atStart => exact ⟨0, -1, Nat.zero_le _, rfl, rfl, Lib.hid (.inl ⟨rfl, fun y h => absurd h (by omega)⟩), Lib.hid (Drawn.refl _)⟩
          case round =>
            obtain ⟨k, bz, hk, rfl, rfl, HBest, Hnd⟩ := hrel
            by_cases hkn : k < n
            · skip
              have hnd := Hnd.out
              have ct : wr.cell? ⟨w.heap.size, k, none⟩ = some (.bool (decide (k ∈ l))) := by rw [drawn_cell hnd, HT.out.cellAt k (by omega), List.getElem?_map, flT_at n l k hkn]; rfl
              have cs : wr.cell? ⟨b1, off1 + k, none⟩ = some (.int .i64 (s.getD k 0)) := by rw [drawn_cell hnd]; exact cell_keep HB.out (HC1.out k hkn)
              have co : wr.cell? ⟨b2, off2 + k, none⟩ = some (.int .i64 (o.getD k 0)) := by rw [drawn_cell hnd]; exact cell_keep HB.out (HC2.out k hkn)
              clear hnd
              by_cases hin : k ∈ l
              · have HB9 := Lib.hid (best_in HBest.out hin)
                rw [decide_eq_true hin] at ct
                clear cs co HBest hin
                go_wp2
                go_quiet (fail)
                go_wp2
                go_roundw
                case rel => exact ⟨k + 1, bz, by omega, by go_num, rfl, Lib.hid (HB9.out), Lib.hid (by first | exact Hnd.out | exact drawn_more Hnd.out _)⟩
                case measure => simp [intOf]; omega
              · rw [decide_eq_false hin] at ct
                rcases HBest.out with ⟨rfl, hall⟩ | ⟨b, rfl, hb, hbl, hbest⟩
                · have HB9 := Lib.hid (best_first (s := s) (o := o) hall hin)
                  clear cs co HBest hin hall
                  go_wp2
                  go_quiet (fail)
                  go_wp2
                  go_roundw
                  case rel => exact ⟨k + 1, (k : Int), by omega, by go_num, rfl, Lib.hid (HB9.out), Lib.hid (by first | exact Hnd.out | exact drawn_more Hnd.out _)⟩
                  case measure => simp [intOf]; omega
                · have ds : wr.cell? ⟨b1, off1 + b, none⟩ = some (.int .i64 (s.getD b 0)) := by rw [drawn_cell Hnd.out]; exact cell_keep HB.out (HC1.out b (by omega))
                  have dd : wr.cell? ⟨b2, off2 + b, none⟩ = some (.int .i64 (o.getD b 0)) := by rw [drawn_cell Hnd.out]; exact cell_keep HB.out (HC2.out b (by omega))
                  have d1 : decide ((b : Int) < 0) = false := decide_eq_false (by omega)
                  have HW := Lib.hid (fun h => best_win hb hbest hin h)
                  have HS := Lib.hid (fun h => best_stay hb hbl hbest h)
                  have HK := Lib.hid (show kb s o k b ↔ s.getD b 0 < s.getD k 0 ∨ (s.getD k 0 = s.getD b 0 ∧ o.getD b 0 < o.getD k 0) from Iff.rfl)
                  clear HBest hin hbl hbest
                  generalize s.getD k 0 = x1 at *
                  generalize s.getD b 0 = x2 at *
                  generalize o.getD k 0 = x3 at *
                  generalize o.getD b 0 = x4 at *
                  have hbn : b < n := by omega
                  by_cases h1 : x2 < x1
                  · have e1 : decide (x2 < x1) = true := decide_eq_true h1
                    have HB9 := Lib.hid (HW.out (HK.out.2 (.inl h1)))
                    clear HW HS HK
                    go_wp2
                    go_quiet (fail)
                    go_wp2
                    go_roundw
                    case rel => exact ⟨k + 1, (k : Int), by omega, by go_num, rfl, Lib.hid (HB9.out), Lib.hid (by first | exact Hnd.out | exact drawn_more Hnd.out _)⟩
                    case measure => simp [intOf]; omega
                  · have e1 : decide (x2 < x1) = false := decide_eq_false h1
                    by_cases h2 : x1 = x2
                    · subst h2
                      by_cases h3 : x4 < x3
                      · have e3 : decide (x4 < x3) = true := decide_eq_true h3
                        have HB9 := Lib.hid (HW.out (HK.out.2 (.inr ⟨rfl, h3⟩)))
                        clear HW HS HK
                        go_wp2
                        go_quiet (fail)
                        go_wp2
                        go_roundw
                        case rel => exact ⟨k + 1, (k : Int), by omega, by go_num, rfl, Lib.hid (HB9.out), Lib.hid (by first | exact Hnd.out | exact drawn_more Hnd.out _)⟩
                        case measure => simp [intOf]; omega
                      · have e3 : decide (x4 < x3) = false := decide_eq_false h3
                        have HB9 := Lib.hid (HS.out (fun h => by have := HK.out.1 h; omega))
                        clear HW HS HK
                        go_wp2
                        go_quiet (fail)
                        go_wp2
                        go_roundw
                        case rel => exact ⟨k + 1, (b : Int), by omega, by go_num, rfl, Lib.hid (HB9.out), Lib.hid (by first | exact Hnd.out | exact drawn_more Hnd.out _)⟩
                        case measure => simp [intOf]; omega
                    · have e2 : (x1 == x2) = false := by simpa using h2
                      have e4 : (x1 = x2) = False := eq_false h2
                      have HB9 := Lib.hid (HS.out (fun h => by have := HK.out.1 h; omega))
                      clear HW HS HK
                      go_wp2
                      go_quiet (fail)
                      go_wp2
                      go_roundw
                      case rel => exact ⟨k + 1, (b : Int), by omega, by go_num, rfl, Lib.hid (HB9.out), Lib.hid (by first | exact Hnd.out | exact drawn_more Hnd.out _)⟩
                      case measure => simp [intOf]; omega
            · obtain rfl : k = n := by omega
              obtain ⟨n, rfl⟩ : ∃ z, z = k := ⟨_, rfl⟩
              obtain ⟨b, rfl, hbn, hbl, hbb⟩ := best_end HBest.out HP1.out (by rw [Hlm.out]; exact hlt)
              have HN := Lib.hid (pick_ord HP1.out HP2.out HP3.out hbn hbl hbb)
              have HO5 := Lib.hid (drawn_own Hnd.out HO.out)
              have HT5 := Lib.hid (drawn_own Hnd.out HT.out)
              have HB5 := Lib.hid (drawn_below Hnd.out HB.out)
              have hsz := HB5.out.size
              have hTs : w.heap.size < wr.heap.size := (HT5.out.lt w.heap.size rfl).2
              have c1 : wr.cell? ⟨w.heap.size, b, none⟩ = some (.bool (decide (b ∈ l))) := by rw [HT5.out.cellAt b (by omega), List.getElem?_map, flT_at n l b hbn]; rfl
              have c2 := HT5.out.frozenAt b
              have hs1 := (HT5.out.stored b (.bool true)).1
              rw [show ((flT n l).map Value.bool).set b (.bool true) = (flT n (l ++ [b])).map Value.bool by rw [← flT_set n l b hbn, List.map_set]] at hs1
              have HT6 := Lib.hid hs1
              have hOb : ∀ g, (Value.slice po m capo).ownBlock = some g → w.heap.size + 1 ≤ g := fun g hg => (HO5.out.lt g hg).1
              have HO6 := Lib.hid (HO5.out.kept (set_grown wr w.heap.size b (.bool true)) (.inr (fun e => by have := hOb _ e; omega)))
              have HB6 := Lib.hid (HB5.out.setCell (p := ⟨w.heap.size, b, none⟩) (Nat.le_refl _) (.bool true))
              have HC9 : Hid (∀ j u, [Value.int .i64 (b : Int)][j]? = some u → ((wr.setCell ⟨w.heap.size, b, none⟩ (.bool true)).alloc (.cells #[.int .i64 (b : Int)] 2)).cell? ((⟨wr.heap.size, 0, none⟩ : Addr).add j) = some u) := Lib.hid (by
                have h9 := cell_one_new (wr.setCell ⟨w.heap.size, b, none⟩ (.bool true)) (.int .i64 (b : Int)) 2
                rw [show (wr.setCell ⟨w.heap.size, b, none⟩ (.bool true)).heap.size = wr.heap.size by simp [World.setCell]] at h9
                exact h9)
              have Hml : Hid ((rowI l).map (Value.int .i64) ++ [.int .i64 (b : Int)] = (rowI (l ++ [b])).map (Value.int .i64)) := Lib.hid (by simp [rowI])
              clear HBest hbl hbb hs1 HT HO HB HT5 HB5 HO5
              rw [Hvo.out] at HO6 hOb
              go_wp2_with (at_builtin; refine wpList_append_own _ rfl _ _ 30 rfl (w.heap.size + 1) 2 i0 (.int .i64 0) 1 8 (by kernel_rfl) hi hz0 hz1 hz2 rfl (by decide) _ m ((rowI l).map (Value.int .i64)) rfl (HO6.out.alloc _) ⟨wr.heap.size, 0, none⟩ 1 1 [.int .i64 (b : Int)] rfl rfl HC9.out (one_int _) (by unfold maxLen; omega) (by omega) (by first | omega | (simp; omega)) ?_; intro v2 w2 hown2 hgrow2 _)
              rw [Hml.out] at hown2
              have HO7 := Lib.hid hown2
              have HT7 := Lib.hid ((HT6.out.alloc (.cells #[.int .i64 (b : Int)] 2)).kept hgrow2 (.inr (fun e => by have := hOb w.heap.size e.symm; omega)))
              have HB7 := Lib.hid ((HB6.out.alloc (by simp [World.setCell]; omega) (.cells #[.int .i64 (b : Int)] 2)).grown hgrow2 (by simp [World.setCell]; omega) (fun g hg => by have := hOb g hg; omega))
              obtain ⟨p7, cap7, rfl⟩ := own_form hown2
              clear hown2 hgrow2
              go_wp2
              go_roundw
              case rel => exact ⟨m + 1, l ++ [b], p7, cap7, by omega, rfl, Lib.hid (by rw [List.length_append, Hlm.out]; rfl), Lib.hid HN.out.1, Lib.hid HN.out.2.1, Lib.hid HN.out.2.2, HO7, HT7, HB7⟩
              case measure => simp [lenV]; omega
        · obtain rfl : m = n := by omega
          have HR := Lib.hid (full_ord HP1.out HP2.out Hlm.out)
          have HS := Lib.hid (Sw.of_owns (d := 0) HO.out (by rw [rowI_len]; exact Hlm.out))
          clear HP1 HP2 HP3 HO HT HT0 HO0 HB0
          go_wp2
          go_ret2
          have hzz := HB.out.size
          exact ⟨_, l, rfl, HR.out, HS.out.mono (Nat.le_succ _) (Nat.le_refl _) (Nat.le_refl _), HB.out⟩
end Go.Proofs.Ytfipcpbibmhjoaa
