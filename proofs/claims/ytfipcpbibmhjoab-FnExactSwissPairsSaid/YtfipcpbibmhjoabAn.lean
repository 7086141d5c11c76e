/- Contracts: pairs of players, the model's. -/
import Derived.Test.YtfipcpbibmhjoabAm
import Derived.BigQuiet
set_option linter.unusedVariables false
namespace Go.Proofs.Ytfipcpbibmhjoab
open Go.RowKit
theorem best_end2 {s o : List Int} {l : List Nat} {n : Nat} {z : Int} (h : BestAt s o l n z) (hx : ∃ x, x < n ∧ x ∉ l) : ∃ b : Nat, z = (b : Int) ∧ b < n ∧ b ∉ l ∧ ∀ y, y < n → y ∉ l → y ≠ b → Bef s o b y := by
  rcases h with ⟨e, h⟩ | h
  · obtain ⟨x, hx, hxl⟩ := hx
    exact absurd (h x hx) hxl
  · exact h
theorem met_sym {n : Nat} {M : List Int} (h : metP n M) (i k : Nat) (hi : i < n) (hk : k < n) : M.getD (i * n + k) 0 = M.getD (k * n + i) 0 := by
  rcases Nat.lt_trichotomy k i with h1 | h1 | h1
  · exact (h.2.2 i hi).1 k h1
  · rw [h1]
  · exact ((h.2.2 k hk).1 i h1).symm
set_option maxRecDepth 100000 in
set_option maxHeartbeats 8000000 in
theorem swiss_spec (s M : List Int) (vs vM : Value) (n : Nat) (w : World) (hs : Sl (Value.int .i64) 0 w vs s) (hM : Sl (Value.int .i64) 0 w vM M) (hn : s.length = n) (h2 : 2 ≤ n) (h16 : n ≤ 16) (hev : n % 2 = 0) (ga : allB 0 1000 s = true) (gm : metP n M) (L : List Nat) (hL : Ord s (zerosI n) n L) (R : Option (List Nat)) (hR : pairT n M n L [] = R) :
    Calls Try.prog 11 #[vs, vM] w fun e w' => ∃ r, e = .returned (.tuple #[r, .bool R.isSome]) ∧ Sw (Value.int .i64) 0 w' r (rowI (R.getD [])) w.heap.size w'.heap.size ∧ Below w.heap.size w w' := by
  obtain ⟨i0, hi, hz0, hz1, hz2⟩ := info_parts (show (Try.prog.info? 2).map (fun i => (i.zero, i.size, i.bytes)) = some (some (.int .i64 0), 1, 8) by kernel_rfl)
  obtain ⟨j0, hj, hj0, hj1, hj2⟩ := info_parts (show (Try.prog.info? 4).map (fun i => (i.zero, i.size, i.bytes)) = some (some (.bool false), 1, 1) by kernel_rfl)
  have hnn : 0 < n * n := Nat.mul_pos (by omega) (by omega)
  have hm256 : n * n ≤ 256 := mul_le16 h16 h16
  have hml := gm.1
  obtain ⟨p1, cap1, rfl, hf1⟩ := hs
  obtain ⟨hcap1, b1, off1, rfl, hbs1, hc1⟩ := hf1 (by omega)
  obtain ⟨p2, cap2, rfl, hf2⟩ := hM
  obtain ⟨hcap2, b2, off2, rfl, hbs2, hc2⟩ := hf2 (by omega)
  have HI1 := Lib.hid (fun k (hk : k < s.length) z => inT_any (rB_at ga k hk) z)
  have HI2 := Lib.hid (fun k (hk : k < M.length) z => (inT_any (rB_at gm.2.1 k hk) z).mono (fun e z' h => (⟨h.1, h.2.symm⟩ : e = .returned (.bool true) ∧ z' = z)))
  have HC1 := Lib.hid hc1
  have HC2 := Lib.hid hc2
  have HSym := Lib.hid (met_sym gm)
  have HDia := Lib.hid (fun i hi => (gm.2.2 i hi).2)
  have HML := Lib.hid hml
  have hq2 : (n : Int) * (n : Int) = (M.length : Int) := by rw [hml]; simp
  have hne : ((M.length : Int) != (M.length : Int)) = false := by simp
  have hmod : (n : Int).tmod 2 = 0 := by rw [Int.tmod_eq_emod_of_nonneg (by omega)]; omega
  have hmm : M.length ≤ 256 := by omega
  have HL := Lib.hid hL
  clear hf1 hf2 hc1 hc2 ga gm hml hnn hm256 hL
  rw [hn] at *
  clear hn
  go_enter Try.func11, Try.ntmps11
  go_wp2
  clear hq2 hne hmod
  go_loopw [38] (fun iv wr => ∃ k : Nat, k ≤ n ∧ iv = .int .i64 (k : Int) ∧ Hid (w = wr)) (fun iv _ => n - (intOf iv).toNat)
  case atStart => exact ⟨0, Nat.zero_le _, rfl, Lib.hid rfl⟩
  case round =>
    obtain ⟨k, hk, rfl, hw⟩ := hrel
    obtain rfl := hw.out
    by_cases hlt : k < n
    · have c1 := HC1.out k hlt
      have HA := Lib.hid (HI1.out k hlt)
      generalize s.getD k 0 = x1 at *
      go_wp2_with (go_at_call 46; (with_reducible refine (HA.out _).mono ?_); rintro e w' ⟨rfl, rfl⟩)
      go_roundw
      case rel => exact ⟨k + 1, by omega, by go_num, Lib.hid (by first | trivial | rfl)⟩
      case measure => simp [intOf]; omega
    · obtain rfl : k = n := by omega
      obtain ⟨n, rfl⟩ : ∃ z, z = k := ⟨_, rfl⟩
      clear HI1 hlt hk
      go_wp2
      go_loopw [50] (fun iv wr => ∃ t : Nat, t ≤ M.length ∧ iv = .int .i64 (t : Int) ∧ Hid (Drawn w wr)) (fun iv _ => M.length - (intOf iv).toNat)
      case atStart => exact ⟨0, Nat.zero_le _, rfl, Lib.hid (Drawn.refl _)⟩
      case round =>
        obtain ⟨t, ht, rfl, Hnd⟩ := hrel
        by_cases htl : t < M.length
        · obtain ⟨I, hI⟩ : ∃ I, I = t / n := ⟨_, rfl⟩
          obtain ⟨J, hJ⟩ : ∃ J, J = t % n := ⟨_, rfl⟩
          have hn0 : 0 < n := by omega
          have hJn : J < n := by rw [hJ]; exact Nat.mod_lt _ hn0
          have hIn : I < n := by rw [hI]; exact (Nat.div_lt_iff_lt_mul hn0).2 (by have := HML.out; omega)
          have htt : I * n + J = t := by rw [hI, hJ, Nat.mul_comm]; exact Nat.div_add_mod t n
          have e1 : (t : Int).tdiv (n : Int) = (I : Int) := by rw [hI]; rfl
          have e2 : (t : Int).tmod (n : Int) = (J : Int) := by rw [hJ]; rfl
          have e3 : ((n : Int) = 0) = False := eq_false (by omega)
          have e4 : ((n : Int) == 0) = false := by simp; omega
          obtain ⟨V, hV⟩ : ∃ V, V = J * n := ⟨_, rfl⟩
          have hV2 : (J : Int) * (n : Int) = (V : Int) := by rw [hV]; simp
          have hV3 : V ≤ 256 := by rw [hV]; exact mul_le16 (by omega) h16
          have hVI : V + I < M.length := by rw [HML.out, hV]; exact cell_lt hJn hIn
          have c1 : wr.cell? ⟨b2, off2 + t, none⟩ = some (.int .i64 (M.getD t 0)) := by rw [drawn_cell Hnd.out]; exact HC2.out t htl
          have c2 : wr.cell? ⟨b2, off2 + (V + I), none⟩ = some (.int .i64 (M.getD t 0)) := by
            rw [drawn_cell Hnd.out, HC2.out (V + I) hVI, hV, ← HSym.out I J hIn hJn, htt]
          have HA := Lib.hid (HI2.out t htl)
          have HD0 : Hid (I = J → M.getD t 0 = 0) := Lib.hid (fun e => by rw [← htt, ← e]; exact HDia.out I hIn)
          clear hI hJ hV htt
          by_cases hIJ : I = J
          · have h0 := HD0.out hIJ
            subst hIJ
            rw [h0] at c1 c2 HA
            clear HD0 h0
            go_wp2
            go_quiet ((go_at_call 46; exact Calls.quiet_of_same (HA.out _)))
            go_wp2
            go_roundw
            case rel => exact ⟨t + 1, by omega, by go_num, Lib.hid (by first | exact Hnd.out | exact drawn_more Hnd.out _)⟩
            case measure => simp [intOf]; omega
          · have e5 : ((I : Int) == (J : Int)) = false := by simp; omega
            have e6 : ((I : Int) = (J : Int)) = False := eq_false (by omega)
            clear HD0
            generalize M.getD t 0 = y at *
            go_wp2
            go_quiet ((go_at_call 46; exact Calls.quiet_of_same (HA.out _)))
            go_wp2
            go_roundw
            case rel => exact ⟨t + 1, by omega, by go_num, Lib.hid (by first | exact Hnd.out | exact drawn_more Hnd.out _)⟩
            case measure => simp [intOf]; omega
        · obtain rfl : t = M.length := by omega
          clear HI2 HSym HDia htl ht
          have HndW := Hnd
          obtain ⟨wd, rfl⟩ : ∃ z, z = wr := ⟨_, rfl⟩
          have hszd : wd.heap.size = w.heap.size := drawn_size HndW.out
          go_wp2_with (at_make; refine wpList_make_full _ rfl _ _ 71 rfl wd.heap.size 4 j0 (.bool false) 1 (by kernel_rfl) hj hj0 hj1 .i64 .i64 n n n rfl rfl rfl rfl (by rw [hj2]; omega) (by unfold maxLen; omega) (Nat.le_refl _) ?_; intro w1 hown hgrow)
          have hbel : Below w.heap.size w w1 := (drawn_below HndW.out (Below.refl _ w)).grown hgrow (by omega) (by simp)
          have hT1 : w.heap.size < w1.heap.size := by have := (hown.lt wd.heap.size rfl).2; omega
          have hcl : (madeCells (Value.bool false).cells (n * 1)).toList = (flT n []).map Value.bool := by
            rw [flT_nil, Nat.mul_one, List.map_replicate]
            exact made1 _ n
          rw [hcl, hszd] at hown
          have HT0 := Lib.hid (hown.alloc (.cells #[] 2))
          have HO0 := Lib.hid (show (w1.alloc (.cells #[] 2)).ownsRow (w.heap.size + 1) 2 1 (.slice (some ⟨w1.heap.size, 0, none⟩) 0 0) 0 ((rowI []).map (Value.int .i64)) from own_zeroK w1 (w.heap.size + 1) 2 hT1)
          have HB0 := Lib.hid (hbel.alloc (Nat.le_of_lt hT1) (.cells #[] 2))
          have HX0 : Hid (([] : List Nat).length = 0 ∧ (∀ x ∈ ([] : List Nat), x < n) ∧ L.Pairwise (Bef s (zerosI n)) ∧ (∀ x, x ∈ L ↔ x < n ∧ x ∉ ([] : List Nat)) ∧ L.length = n ∧ pairT n M n L [] = R) := Lib.hid ⟨rfl, fun x h => absurd h (by simp), HL.out.1, fun x => by simp [HL.out.2 x], HL.out.len, hR⟩
          clear hown hgrow hbel hcl hR HL
          go_loopw [10] (fun ov wr => ∃ (m t : Nat) (K out left : List Nat) (po : Option Addr) (capo : Nat), m ≤ n ∧ ov = .slice po m capo ∧ Hid (∃ h, m = 2 * h) ∧ Hid (out.length = m ∧ (∀ x ∈ K, x < n) ∧ left.Pairwise (Bef s (zerosI n)) ∧ (∀ x, x ∈ left ↔ x < n ∧ x ∉ K) ∧ left.length + m = n ∧ left.length ≤ t ∧ pairT n M t left out = R) ∧ Hid (wr.ownsRow (w.heap.size + 1) 2 1 (.slice po m capo) m ((rowI out).map (Value.int .i64))) ∧ Hid (wr.ownsRow w.heap.size 4 1 (.slice (some ⟨w.heap.size, 0, none⟩) n n) n ((flT n K).map Value.bool)) ∧ Hid (Below w.heap.size w wr)) (fun ov _ => n - lenW ov)
          case atStart => exact ⟨0, n, [], [], L, _, _, Nat.zero_le _, rfl, Lib.hid ⟨0, rfl⟩, Lib.hid ⟨rfl, HX0.out.2.1, HX0.out.2.2.1, HX0.out.2.2.2.1, HX0.out.2.2.2.2.1, Nat.le_of_eq HX0.out.2.2.2.2.1, HX0.out.2.2.2.2.2⟩, HO0, HT0, HB0⟩
          case round =>
            clear HX0 HO0 HT0 HB0 Hnd HndW
            obtain ⟨m, t, K, out, left, po, capo, hle, rfl, Hev, HX, HO, HT, HB⟩ := hrel
            by_cases hlt : m < n
            · obtain ⟨wo, rfl⟩ : ∃ z, z = wr := ⟨_, rfl⟩
              have hm2 : m + 2 ≤ n := by obtain ⟨h, rfl⟩ := Hev.out; omega
              go_wp2
              generalize hvo : Value.slice po m capo = vo
              have Hvo := Lib.hid hvo
              clear hvo
              go_loopw [11, 104] (fun bv iv wr => ∃ (k : Nat) (bz : Int), k ≤ n ∧ iv = .int .i64 (k : Int) ∧ bv = .int .i64 bz ∧ Hid (BestAt s (zerosI n) K k bz) ∧ Hid (Drawn wo wr)) (fun _ iv _ => n - (intOf iv).toNat)
              case atStart => exact ⟨0, -1, Nat.zero_le _, rfl, rfl, Lib.hid (.inl ⟨rfl, fun y h => absurd h (by omega)⟩), Lib.hid (Drawn.refl _)⟩
              case round =>
                obtain ⟨k, bz, hk, rfl, rfl, HBest, Hnd⟩ := hrel
                by_cases hkn : k < n
                · skip
                  have hnd := Hnd.out
                  have ct : wr.cell? ⟨w.heap.size, k, none⟩ = some (.bool (decide (k ∈ K))) := by rw [drawn_cell hnd, HT.out.cellAt k (by omega), List.getElem?_map, flT_at n K k hkn]; rfl
                  have cs : wr.cell? ⟨b1, off1 + k, none⟩ = some (.int .i64 (s.getD k 0)) := by rw [drawn_cell hnd]; exact cell_keep HB.out (HC1.out k hkn)
                  clear hnd
                  by_cases hin : k ∈ K
                  · have HB9 := Lib.hid (best_in HBest.out hin)
                    rw [decide_eq_true hin] at ct
                    clear cs HBest hin
                    go_wp2
                    go_quiet (fail)
                    go_wp2
                    go_roundw
                    case rel => exact ⟨k + 1, bz, by omega, by go_num, rfl, Lib.hid (HB9.out), Lib.hid (by first | exact Hnd.out | exact drawn_more Hnd.out _)⟩
                    case measure => simp [intOf]; omega
                  · rw [decide_eq_false hin] at ct
                    rcases HBest.out with ⟨rfl, hall⟩ | ⟨b, rfl, hb, hbl, hbest⟩
                    · have HB9 := Lib.hid (best_first (s := s) (o := zerosI n) hall hin)
                      clear cs HBest hin hall
                      go_wp2
                      go_quiet (fail)
                      go_wp2
                      go_roundw
                      case rel => exact ⟨k + 1, (k : Int), by omega, by go_num, rfl, Lib.hid (HB9.out), Lib.hid (by first | exact Hnd.out | exact drawn_more Hnd.out _)⟩
                      case measure => simp [intOf]; omega
                    · have ds : wr.cell? ⟨b1, off1 + b, none⟩ = some (.int .i64 (s.getD b 0)) := by rw [drawn_cell Hnd.out]; exact cell_keep HB.out (HC1.out b (by omega))
                      have d1 : decide ((b : Int) < 0) = false := decide_eq_false (by omega)
                      have HW := Lib.hid (fun h => best_win hb hbest hin h)
                      have HS := Lib.hid (fun h => best_stay hb hbl hbest h)
                      have HK := Lib.hid (kb_zeros s n k b)
                      clear HBest hin hbl hbest
                      generalize s.getD k 0 = x1 at *
                      generalize s.getD b 0 = x2 at *
                      have hbn : b < n := by omega
                      by_cases h1 : x2 < x1
                      · have e1 : decide (x2 < x1) = true := decide_eq_true h1
                        have HB9 := Lib.hid (HW.out (HK.out.2 h1))
                        clear HW HS HK
                        go_wp2
                        go_quiet (fail)
                        go_wp2
                        go_roundw
                        case rel => exact ⟨k + 1, (k : Int), by omega, by go_num, rfl, Lib.hid (HB9.out), Lib.hid (by first | exact Hnd.out | exact drawn_more Hnd.out _)⟩
                        case measure => simp [intOf]; omega
                      · have e1 : decide (x2 < x1) = false := decide_eq_false h1
                        have HB9 := Lib.hid (HS.out (fun h => h1 (HK.out.1 h)))
                        clear HW HS HK
                        go_wp2
                        go_quiet (fail)
                        go_wp2
                        go_roundw
                        case rel => exact ⟨k + 1, (b : Int), by omega, by go_num, rfl, Lib.hid (HB9.out), Lib.hid (by first | exact Hnd.out | exact drawn_more Hnd.out _)⟩
                        case measure => simp [intOf]; omega
                · obtain rfl : k = n := by omega
                  obtain ⟨n, rfl⟩ : ∃ z, z = k := ⟨_, rfl⟩
                  obtain ⟨q1, q2, q3, q4, q5, q6, q7⟩ := HX.out
                  have hx0 : ∃ x, x < n ∧ x ∉ K := by
                    cases left with
                    | nil => simp at q5; omega
                    | cons x _ => exact ⟨x, (q4 x).1 (by simp)⟩
                  obtain ⟨a, rfl, han, haK, hab⟩ := best_end2 HBest.out hx0
                  obtain ⟨rest, rfl⟩ := head_best q3 ((q4 a).2 ⟨han, haK⟩) (fun y hy hya => hab y ((q4 y).1 hy).1 ((q4 y).1 hy).2 hya)
                  obtain ⟨t, rfl⟩ : ∃ z, t = z + 1 := ⟨t - 1, by simp at q6; omega⟩
                  have hnd := List.nodup_cons.1 (ord_nodup q3)
                  have q8 : ∀ x, x ∈ rest ↔ x < n ∧ x ∉ K ++ [a] := fun x => by
                    constructor
                    · intro hx
                      obtain ⟨h1, h2⟩ := (q4 x).1 (List.mem_cons_of_mem _ hx)
                      refine ⟨h1, fun h => ?_⟩
                      rcases List.mem_append.1 h with h | h
                      · exact h2 h
                      · rw [List.mem_singleton] at h; rw [h] at hx; exact hnd.1 hx
                    · intro ⟨h1, h2⟩
                      rcases List.mem_cons.1 ((q4 x).2 ⟨h1, fun h => h2 (List.mem_append.2 (.inl h))⟩) with e | h
                      · exact absurd (List.mem_append.2 (.inr (by rw [e]; simp))) h2
                      · exact h
                  have q9 := (List.pairwise_cons.1 q3).2
                  have HXr : Hid (out.length = m ∧ (∀ x ∈ K, x < n) ∧ rest.Pairwise (Bef s (zerosI n)) ∧ (∀ x, x ∈ rest ↔ x < n ∧ x ∉ K ++ [a]) ∧ rest.length + 1 + m = n ∧ rest.length ≤ t ∧ pairT n M (t + 1) (a :: rest) out = R) := Lib.hid ⟨q1, q2, q9, q8, by simpa using q5, by simpa using q6, q7⟩
                  have HO5 := Lib.hid (drawn_own Hnd.out HO.out)
                  have HT5 := Lib.hid (drawn_own Hnd.out HT.out)
                  have HB5 := Lib.hid (drawn_below Hnd.out HB.out)
                  have hTs : w.heap.size < wr.heap.size := (HT5.out.lt w.heap.size rfl).2
                  have c1 : wr.cell? ⟨w.heap.size, a, none⟩ = some (.bool (decide (a ∈ K))) := by rw [HT5.out.cellAt a (by omega), List.getElem?_map, flT_at n K a han]; rfl
                  have c2 := HT5.out.frozenAt a
                  have hs1 := (HT5.out.stored a (.bool true)).1
                  rw [show ((flT n K).map Value.bool).set a (.bool true) = (flT n (K ++ [a])).map Value.bool by rw [← flT_set n K a han, List.map_set]] at hs1
                  have hOb : ∀ g, vo.ownBlock = some g → w.heap.size + 1 ≤ g := fun g hg => by rw [← Hvo.out] at hg; exact (HO5.out.lt g hg).1
                  have HOb := Lib.hid hOb
                  have hO6 := HO5.out.kept (set_grown wr w.heap.size a (.bool true)) (.inr (fun e => by have := (HO5.out.lt _ e).1; omega))
                  have hB6 := HB5.out.setCell (p := ⟨w.heap.size, a, none⟩) (Nat.le_refl _) (.bool true)
                  obtain ⟨V, hV⟩ : ∃ V, V = a * n := ⟨_, rfl⟩
                  have hV2 : (a : Int) * (n : Int) = (V : Int) := by rw [hV]; simp
                  have hV3 : V ≤ 256 := by rw [hV]; exact mul_le16 (by omega) h16
                  have HVk : Hid (∀ k, k < n → V + k < M.length) := Lib.hid (fun k hk => by rw [HML.out, hV]; exact cell_lt han hk)
                  have HV := Lib.hid hV
                  obtain ⟨Kb, hKb⟩ : ∃ Kb, Kb = (K ++ [a]) ++ (List.range n).filter (fun g => !(M.getD (V + g) 0 == 0)) := ⟨_, rfl⟩
                  have HKb : Hid (∀ k, k ∈ Kb ↔ k ∈ K ++ [a] ∨ (k < n ∧ M.getD (V + k) 0 ≠ 0)) := Lib.hid (fun k => by
                    rw [hKb, List.mem_append, List.mem_filter, List.mem_range]; simp)
                  clear hV hKb q1 q2 q3 q4 q5 q6 q7 q8 q9 hnd HX HBest hx0 hab haK HO HT HB HO5 HT5 HB5 hOb
                  go_wp2
                  obtain ⟨w6, hw6⟩ : ∃ z, z = wr.setCell ⟨w.heap.size, a, none⟩ (.bool true) := ⟨_, rfl⟩
                  rw [← hw6] at hs1 hO6 hB6
                  rw [← hw6]
                  clear hw6 c1 c2
                  have HT := Lib.hid hs1
                  have HO := Lib.hid hO6
                  have HB := Lib.hid hB6
                  clear hs1 hO6 hB6 hTs
                  go_loopw [13, 134] (fun bv iv wr => ∃ (k : Nat) (bz : Int), k ≤ n ∧ iv = .int .i64 (k : Int) ∧ bv = .int .i64 bz ∧ Hid (BestAt s (zerosI n) Kb k bz) ∧ Hid (Drawn w6 wr)) (fun _ iv _ => n - (intOf iv).toNat)
                  case atStart => exact ⟨0, -1, Nat.zero_le _, rfl, rfl, Lib.hid (.inl ⟨rfl, fun y h => absurd h (by omega)⟩), Lib.hid (Drawn.refl _)⟩
                  case round =>
                    clear Hnd
                    obtain ⟨k, bz, hk, rfl, rfl, HBest, Hnd⟩ := hrel
                    by_cases hkn : k < n
                    · skip
                      have hnd := Hnd.out
                      have ct : wr.cell? ⟨w.heap.size, k, none⟩ = some (.bool (decide (k ∈ K ++ [a]))) := by rw [drawn_cell hnd, HT.out.cellAt k (by omega), List.getElem?_map, flT_at n (K ++ [a]) k hkn]; rfl
                      have cs : wr.cell? ⟨b1, off1 + k, none⟩ = some (.int .i64 (s.getD k 0)) := by rw [drawn_cell hnd]; exact cell_keep HB.out (HC1.out k hkn)
                      have cm : wr.cell? ⟨b2, off2 + (V + k), none⟩ = some (.int .i64 (M.getD (V + k) 0)) := by rw [drawn_cell hnd]; exact cell_keep HB.out (HC2.out (V + k) (HVk.out k hkn))
                      have hvk := HVk.out k hkn
                      clear hnd
                      by_cases hin0 : k ∈ K ++ [a]
                      · have HB9 := Lib.hid (best_in HBest.out ((HKb.out k).2 (.inl hin0)))
                        rw [decide_eq_true hin0] at ct
                        clear cs cm HBest hin0
                        go_wp2
                        go_quiet (fail)
                        go_wp2
                        go_roundw
                        case rel => exact ⟨k + 1, bz, by omega, by go_num, rfl, Lib.hid (HB9.out), Lib.hid (by first | exact Hnd.out | exact drawn_more Hnd.out _)⟩
                        case measure => simp [intOf]; omega
                      · rw [decide_eq_false hin0] at ct
                        by_cases hm0 : M.getD (V + k) 0 = 0
                        · have hin : ¬ k ∈ Kb := fun h => ((HKb.out k).1 h).elim hin0 (fun h2 => h2.2 hm0)
                          rw [hm0] at cm
                          clear hin0 hm0
                          rcases HBest.out with ⟨rfl, hall⟩ | ⟨b, rfl, hb, hbl, hbest⟩
                          · have HB9 := Lib.hid (best_first (s := s) (o := zerosI n) hall hin)
                            clear cs HBest hin hall
                            go_wp2
                            go_quiet (fail)
                            go_wp2
                            go_roundw
                            case rel => exact ⟨k + 1, (k : Int), by omega, by go_num, rfl, Lib.hid (HB9.out), Lib.hid (by first | exact Hnd.out | exact drawn_more Hnd.out _)⟩
                            case measure => simp [intOf]; omega
                          · have ds : wr.cell? ⟨b1, off1 + b, none⟩ = some (.int .i64 (s.getD b 0)) := by rw [drawn_cell Hnd.out]; exact cell_keep HB.out (HC1.out b (by omega))
                            have d1 : decide ((b : Int) < 0) = false := decide_eq_false (by omega)
                            have HW := Lib.hid (fun h => best_win hb hbest hin h)
                            have HS := Lib.hid (fun h => best_stay hb hbl hbest h)
                            have HK := Lib.hid (kb_zeros s n k b)
                            clear HBest hin hbl hbest
                            generalize s.getD k 0 = x1 at *
                            generalize s.getD b 0 = x2 at *
                            have hbn : b < n := by omega
                            by_cases h1 : x2 < x1
                            · have e1 : decide (x2 < x1) = true := decide_eq_true h1
                              have HB9 := Lib.hid (HW.out (HK.out.2 h1))
                              clear HW HS HK
                              go_wp2
                              go_quiet (fail)
                              go_wp2
                              go_roundw
                              case rel => exact ⟨k + 1, (k : Int), by omega, by go_num, rfl, Lib.hid (HB9.out), Lib.hid (by first | exact Hnd.out | exact drawn_more Hnd.out _)⟩
                              case measure => simp [intOf]; omega
                            · have e1 : decide (x2 < x1) = false := decide_eq_false h1
                              have HB9 := Lib.hid (HS.out (fun h => h1 (HK.out.1 h)))
                              clear HW HS HK
                              go_wp2
                              go_quiet (fail)
                              go_wp2
                              go_roundw
                              case rel => exact ⟨k + 1, (b : Int), by omega, by go_num, rfl, Lib.hid (HB9.out), Lib.hid (by first | exact Hnd.out | exact drawn_more Hnd.out _)⟩
                              case measure => simp [intOf]; omega
                        · have HB9 := Lib.hid (best_in HBest.out ((HKb.out k).2 (.inr ⟨hkn, hm0⟩)))
                          have e5 : (M.getD (V + k) 0 == 0) = false := by simpa using hm0
                          have e6 : (M.getD (V + k) 0 = 0) = False := eq_false hm0
                          clear cs HBest hin0 hm0
                          generalize M.getD (V + k) 0 = y at *
                          go_wp2
                          go_quiet (fail)
                          go_wp2
                          go_roundw
                          case rel => exact ⟨k + 1, bz, by omega, by go_num, rfl, Lib.hid (HB9.out), Lib.hid (by first | exact Hnd.out | exact drawn_more Hnd.out _)⟩
                          case measure => simp [intOf]; omega
                    · obtain rfl : k = n := by omega
                      obtain ⟨n, rfl⟩ : ∃ z, z = k := ⟨_, rfl⟩
                      obtain ⟨q1, q2, q3, q4, q5, q6, q7⟩ := HXr.out
                      have HO5 := Lib.hid (drawn_own Hnd.out HO.out)
                      have HT5 := Lib.hid (drawn_own Hnd.out HT.out)
                      have HB5 := Lib.hid (drawn_below Hnd.out HB.out)
                      rcases HBest.out with ⟨rfl, hall⟩ | ⟨b, rfl, hbn, hbK, hbb⟩
                      · have hRn : none = R := by
                          rw [← q7]
                          refine (pairT_none (List.find?_eq_none.2 (fun g hg => ?_))).symm
                          obtain ⟨h1, h2⟩ := (q4 g).1 hg
                          rcases (HKb.out g).1 (hall g h1) with h | h
                          · exact absurd h h2
                          · rw [← HV.out]; simpa using h.2
                        subst hRn
                        clear q1 q2 q3 q4 q5 q6 q7 HXr HBest hall HO5 HT5 HO HT HKb HVk
                        go_wp2
                        go_ret2
                        exact ⟨_, rfl, Sw.nil _ _ _ _ _ _ _, HB5.out⟩
                      · obtain ⟨hbK1, hbM⟩ : b ∉ K ++ [a] ∧ M.getD (V + b) 0 = 0 := ⟨fun h => hbK ((HKb.out b).2 (.inl h)), Classical.byContradiction fun h => hbK ((HKb.out b).2 (.inr ⟨hbn, h⟩))⟩
                        have hbr : b ∈ rest := (q4 b).2 ⟨hbn, hbK1⟩
                        have hsome : rest.find? (fun g => M.getD (a * n + g) 0 == 0) = some b := by
                          refine find_best q3 hbr (by rw [← HV.out, hbM]; rfl) (fun g hg hpg hgb => ?_)
                          obtain ⟨h1, h2⟩ := (q4 g).1 hg
                          refine hbb g h1 (fun h => ?_) hgb
                          rcases (HKb.out g).1 h with h | h
                          · exact h2 h
                          · rw [← HV.out] at hpg; exact h.2 (by simpa using hpg)
                        have q8 : pairT n M t (rest.erase b) (out ++ [a, b]) = R := by rw [← q7]; exact (pairT_some hsome).symm
                        have q9 : ∀ x ∈ (K ++ [a]) ++ [b], x < n := fun x hx => by
                          rcases List.mem_append.1 hx with hx | hx
                          · rcases List.mem_append.1 hx with hx | hx
                            · exact q2 x hx
                            · rw [List.mem_singleton] at hx; rw [hx]; exact han
                          · rw [List.mem_singleton] at hx; rw [hx]; exact hbn
                        have q10 : ∀ x, x ∈ rest.erase b ↔ x < n ∧ x ∉ (K ++ [a]) ++ [b] := fun x => by
                          rw [erase_mem q3, q4 x, List.mem_append (s := K ++ [a]), List.mem_singleton]
                          constructor
                          · intro ⟨h1, h2, h3⟩
                            exact ⟨h2, fun h => h.elim h3 h1⟩
                          · intro ⟨h1, h2⟩
                            exact ⟨fun h => h2 (.inr h), h1, fun h => h2 (.inl h)⟩
                        have q11 : (rest.erase b).length + 1 = rest.length := by
                          rw [List.length_erase_of_mem hbr]; omega
                        have HXn : Hid ((out ++ [a, b]).length = m + 2 ∧ (∀ x ∈ (K ++ [a]) ++ [b], x < n) ∧ (rest.erase b).Pairwise (Bef s (zerosI n)) ∧ (∀ x, x ∈ rest.erase b ↔ x < n ∧ x ∉ (K ++ [a]) ++ [b]) ∧ (rest.erase b).length + (m + 2) = n ∧ (rest.erase b).length ≤ t ∧ pairT n M t (rest.erase b) (out ++ [a, b]) = R) := Lib.hid ⟨by simp [q1], q9, erase_sorted b q3, q10, by omega, by omega, q8⟩
                        have Hev2 : Hid (∃ h, m + 2 = 2 * h) := Lib.hid (by obtain ⟨h, e⟩ := Hev.out; exact ⟨h + 1, by omega⟩)
                        have hsz := HB5.out.size
                        have hTs : w.heap.size < wr.heap.size := (HT5.out.lt w.heap.size rfl).2
                        have c1 : wr.cell? ⟨w.heap.size, b, none⟩ = some (.bool (decide (b ∈ K ++ [a]))) := by rw [HT5.out.cellAt b (by omega), List.getElem?_map, flT_at n (K ++ [a]) b hbn]; rfl
                        have c2 := HT5.out.frozenAt b
                        have hs1 := (HT5.out.stored b (.bool true)).1
                        rw [show ((flT n (K ++ [a])).map Value.bool).set b (.bool true) = (flT n ((K ++ [a]) ++ [b])).map Value.bool by rw [← flT_set n (K ++ [a]) b hbn, List.map_set]] at hs1
                        have HT6 := Lib.hid hs1
                        have hOb := HOb.out
                        have HO6 := Lib.hid (HO5.out.kept (set_grown wr w.heap.size b (.bool true)) (.inr (fun e => by have := (HO5.out.lt _ e).1; omega)))
                        rw [Hvo.out] at HO6
                        have HB6 := Lib.hid (HB5.out.setCell (p := ⟨w.heap.size, b, none⟩) (Nat.le_refl _) (.bool true))
                        have HI9 := Lib.hid (ints_oneCell .i64 [(a : Int), (b : Int)])
                        have HC9 : Hid (∀ j u, [Value.int .i64 (a : Int), .int .i64 (b : Int)][j]? = some u → ((wr.setCell ⟨w.heap.size, b, none⟩ (.bool true)).alloc (.cells #[.int .i64 (a : Int), .int .i64 (b : Int)] 2)).cell? ((⟨wr.heap.size, 0, none⟩ : Addr).add j) = some u) := Lib.hid (by
                          have h9 := cell_two_new (wr.setCell ⟨w.heap.size, b, none⟩ (.bool true)) (.int .i64 (a : Int)) (.int .i64 (b : Int)) 2
                          rw [show (wr.setCell ⟨w.heap.size, b, none⟩ (.bool true)).heap.size = wr.heap.size by simp [World.setCell]] at h9
                          exact h9)
                        have Hml : Hid ((rowI out).map (Value.int .i64) ++ [.int .i64 (a : Int), .int .i64 (b : Int)] = (rowI (out ++ [a, b])).map (Value.int .i64)) := Lib.hid (by simp [rowI])
                        clear HXr HBest hbK hbb hbK1 hbM hbr hsome q1 q2 q3 q4 q5 q6 q7 q8 q9 q10 q11 hs1 HT HO HB HT5 HB5 HO5 HKb HVk
                        go_wp2_with (at_builtin; refine wpList_append_own _ rfl _ _ 22 rfl (w.heap.size + 1) 2 i0 (.int .i64 0) 1 8 (by kernel_rfl) hi hz0 hz1 hz2 rfl (by decide) _ m ((rowI out).map (Value.int .i64)) rfl (HO6.out.alloc _) ⟨wr.heap.size, 0, none⟩ 2 2 [.int .i64 (a : Int), .int .i64 (b : Int)] rfl rfl HC9.out HI9.out (by unfold maxLen; omega) (by omega) (by first | omega | (simp; omega)) ?_; intro v2 w2 hown2 hgrow2 _)
                        rw [Hml.out] at hown2
                        have HO7 := Lib.hid hown2
                        have HT7 := Lib.hid ((HT6.out.alloc (.cells #[.int .i64 (a : Int), .int .i64 (b : Int)] 2)).kept hgrow2 (.inr (fun e => by have := hOb w.heap.size e.symm; omega)))
                        have HB7 := Lib.hid ((HB6.out.alloc (by simp [World.setCell]; omega) (.cells #[.int .i64 (a : Int), .int .i64 (b : Int)] 2)).grown hgrow2 (by simp [World.setCell]; omega) (fun g hg => by have := hOb g hg; omega))
                        obtain ⟨p7, cap7, rfl⟩ := own_form hown2
                        clear hown2 hgrow2
                        go_wp2
                        go_roundw
                        case rel => exact ⟨m + 2, t, (K ++ [a]) ++ [b], out ++ [a, b], rest.erase b, p7, cap7, by omega, rfl, Hev2, HXn, HO7, HT7, HB7⟩
                        case measure => simp [lenW]; omega
            · obtain rfl : m = n := by omega
              obtain ⟨q1, q2, q3, q4, q5, q6, q7⟩ := HX.out
              rw [List.eq_nil_of_length_eq_zero (show left.length = 0 by omega), pairT_nil] at q7
              subst q7
              have HS := Lib.hid (Sw.of_owns (d := 0) HO.out (by rw [rowI_len]; exact q1))
              clear HX HO HT q1 q2 q3 q4 q5 q6
              go_wp2
              go_ret2
              have hzz := HB.out.size
              exact ⟨_, rfl, HS.out.mono (Nat.le_succ _) (Nat.le_refl _) (Nat.le_refl _), HB.out⟩
end Go.Proofs.Ytfipcpbibmhjoab
