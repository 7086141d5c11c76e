/- Contracts: hands of tiles, the model: groups. -/
import Derived.Test.YtglmahgbdgbbpaaZf
import Derived.Deep.AppendLies
set_option linter.unusedVariables false
namespace Go.Proofs.Ytglmahgbdgbbpaa
open Go.RowKit

theorem own_zeroT (w : World) (base : Nat) (e : TypeId) (hb : base ≤ w.heap.size) : (w.alloc (.cells #[] e)).ownsRow base e 1 (.slice (some ⟨w.heap.size, 0, none⟩) 0 0) 0 [] :=
  World.ownsRow_made w #[] 0 hb (Nat.zero_le _) rfl
theorem clone_facts {wr w1 : World} {g c2 : Nat} {l : List Int} (h9 : l.length = 9) (hown : w1.ownsRow wr.heap.size 2 1 (.slice (some ⟨g, 0, none⟩) (0 + 9) c2) (0 + 9) ([] ++ l.map (Value.int .i64))) (hgrow : (wr.alloc (.cells #[] 2)).grownBy w1 (some wr.heap.size)) :
    Sw (Value.int .i64) 0 w1 (.slice (some ⟨g, 0, none⟩) 9 c2) l wr.heap.size w1.heap.size ∧ Below wr.heap.size wr w1 := by
  refine ⟨Sw.of_owns (n := 9) (by simpa using hown) h9, ((Below.refl wr.heap.size wr).alloc (Nat.le_refl _) _).grown hgrow (by simp) (fun b hb => by cases hb; exact Nat.le_refl _)⟩
theorem Sw.at0 {w1 : World} {g c2 lo hi : Nat} {l : List Int} (h : Sw (Value.int .i64) 0 w1 (.slice (some ⟨g, 0, none⟩) 9 c2) l lo hi) (i : Nat) (hil : i < l.length) :
    w1.cell? ⟨g, i, none⟩ = some (.int .i64 (l.getD i 0)) ∧ w1.frozen? ⟨g, i, none⟩ = false := by
  obtain ⟨b, off, e, -, -, h1, h2⟩ := h.open' i hil
  cases e
  rw [Nat.zero_add] at h1 h2
  exact ⟨h1, h2⟩
theorem Sw.put0 {w1 : World} {g c2 lo hi : Nat} {l : List Int} (h : Sw (Value.int .i64) 0 w1 (.slice (some ⟨g, 0, none⟩) 9 c2) l lo hi) (i : Nat) (hil : i < l.length) (x : Int) :
    Sw (Value.int .i64) 0 (w1.setCell ⟨g, i, none⟩ (.int .i64 x)) (.slice (some ⟨g, 0, none⟩) 9 c2) (l.set i x) lo hi := by
  have := Sw.store h i hil x
  rw [Nat.zero_add] at this
  exact this
theorem two_facts {w1 : World} {g c2 lo hi : Nat} {l : List Int} (h : Sw (Value.int .i64) 0 w1 (.slice (some ⟨g, 0, none⟩) 9 c2) l lo hi) (h9 : l.length = 9) (i j : Nat) (hil : i < 9) (hj : j < 9) (hij : j ≠ i) (x y : Int) :
    (w1.setCell ⟨g, i, none⟩ (.int .i64 x)).cell? ⟨g, j, none⟩ = some (.int .i64 (l.getD j 0)) ∧ (w1.setCell ⟨g, i, none⟩ (.int .i64 x)).frozen? ⟨g, j, none⟩ = false ∧
    Sw (Value.int .i64) 0 ((w1.setCell ⟨g, i, none⟩ (.int .i64 x)).setCell ⟨g, j, none⟩ (.int .i64 y)) (.slice (some ⟨g, 0, none⟩) 9 c2) ((l.set i x).set j y) lo hi := by
  have h1 := h.put0 i (by omega) x
  obtain ⟨h2, h3⟩ := h1.at0 j (by rw [List.length_set]; omega)
  rw [getD_set l i j x (by omega), if_neg hij] at h2
  exact ⟨h2, h3, h1.put0 j (by rw [List.length_set]; omega) y⟩
set_option maxRecDepth 100000 in
set_option maxHeartbeats 4000000 in
theorem grp_spec : ∀ (f k : Nat) (l : List Int) (v : Value) (w : World), k + f = 9 → nineT l → Sl (Value.int .i64) 0 w v l →
    Calls Try.prog 97 #[v, .int .i64 (k : Int)] w fun e w' => e = .returned (.int .i64 (grp f l)) ∧ Below w.heap.size w w'
  | 0, k, l, v, w, hk, h, hs => by
    obtain rfl : k = 9 := by omega
    obtain ⟨p, cap, rfl, -⟩ := hs
    rw [h.1]
    clear h hk
    go_enter Try.func97, Try.ntmps97
    go_wp2
    go_ret
    exact ⟨rfl, Below.refl _ _⟩
  | f + 1, k, l, v, w, hk, h, hs => by
    obtain ⟨i0, hi, hz0, hz1, hz2⟩ := info_parts (show (Try.prog.info? 2).map (fun i => (i.zero, i.size, i.bytes)) = some (some (.int .i64 0), 1, 8) by kernel_rfl)
    have hk9 : k < 9 := by omega
    have hy := h.2 k hk9
    have HS0 := Lib.hid hs
    have HG := Lib.hid (fun (l' : List Int) (u : Value) (z : World) (h' : nineT l') (hu : Sl (Value.int .i64) 0 z u l') => grp_spec f (k + 1) l' u z (by omega) h' hu)
    have HN := Lib.hid (fun (r : Int) (l' : List Int) (r0 : 0 ≤ r) (e : rowsT l k r = some l') => rowsT_nine h r0 e)
    have HS := Lib.hid (fun (l' : List Int) (h' : nineT l') => grp_small f l' (by omega) h')
    have HB := Lib.hid (wT_bd f l k (by omega) h)
    have HT := Lib.hid (fun t : Nat => show wT (grp f) l k (t + 1) = wT (grp f) l k t + trT (grp f) l k (l.getD k 0 - 3 * t) from rfl)
    have HT0 := Lib.hid (show wT (grp f) l k 0 = 0 from rfl)
    have e0 : grp (f + 1) l = wT (grp f) l k (nT (l.getD k 0)) := by
      show wT (grp f) l (8 - f) (nT (l.getD (8 - f) 0)) = _
      rw [show 8 - f = k by omega]
    rw [e0]
    have HE1 := Lib.hid (fun (r : Int) (e : rowsT l k r = none) => show trT (grp f) l k r = 0 by unfold trT; rw [e])
    have HE2 := Lib.hid (fun (r : Int) (l' : List Int) (e : rowsT l k r = some l') => show trT (grp f) l k r = grp f l' by unfold trT; rw [e])
    have H9 := Lib.hid h.1
    have Hnine := Lib.hid h
    obtain ⟨p, cap, rfl, hf⟩ := hs
    obtain ⟨hcap, b, off, rfl, hbs, hc⟩ := hf (by rw [h.1]; decide)
    have HC := Lib.hid (fun (z : World) (hz : Below w.heap.size w z) (i : Nat) (hi : i < 9) => show z.cell? ⟨b, off + i, none⟩ = some (.int .i64 (l.getD i 0)) from cell_keep hz (hc i (by rw [h.1]; exact hi)))
    have HNc0 := Lib.hid (fun (z : World) (hz : Below w.heap.size w z) => show ∀ j u, (l.map (Value.int .i64))[j]? = some u → z.cell? (Addr.add ⟨b, off, none⟩ j) = some u from fun j u hj => by
      rw [List.getElem?_map] at hj
      cases hx : l[j]? with
      | none => rw [hx] at hj; cases hj
      | some x =>
        rw [hx] at hj
        cases hj
        have hjl := (List.getElem?_eq_some_iff.1 hx).1
        have := cell_keep hz (hc j hjl)
        rw [show l.getD j 0 = x by simp [List.getD, hx]] at this
        rw [Addr.add_mid]; exact this)
    have HNl : Hid ((l.map (Value.int .i64)).length = 9 * 1) := Lib.hid (by rw [List.length_map, h.1])
    have HN1 : Hid (∀ t ∈ l.map (Value.int .i64), t.oneCell' = true) := Lib.hid (fun t ht => by
      obtain ⟨y, -, rfl⟩ := List.mem_map.1 ht; rfl)
    have hn1 : nT (l.getD k 0) = if l.getD k 0 < 3 then 1 else 2 := rfl
    rw [h.1] at HS0 ⊢
    have HRa := Lib.hid (show rowsT l k 0 = some l by unfold rowsT; rw [if_pos rfl])
    have HRb := Lib.hid (fun (r : Int) (hr : r ≠ 0) (hq : 9 < k + 3) => show rowsT l k r = none by unfold rowsT; rw [if_neg hr, if_pos hq])
    have HRc := Lib.hid (fun (r : Int) (hr : r ≠ 0) (hq : ¬ 9 < k + 3) (hl : l.getD (k + 1) 0 < r ∨ l.getD (k + 2) 0 < r) => show rowsT l k r = none by unfold rowsT; rw [if_neg hr, if_neg hq, if_pos hl])
    have HRd := Lib.hid (fun (r : Int) (hr : r ≠ 0) (hq : ¬ 9 < k + 3) (hl : ¬ (l.getD (k + 1) 0 < r ∨ l.getD (k + 2) 0 < r)) => show rowsT l k r = some ((l.set (k + 1) (l.getD (k + 1) 0 - r)).set (k + 2) (l.getD (k + 2) 0 - r)) by unfold rowsT; rw [if_neg hr, if_neg hq, if_neg hl])
    have Hbds := Lib.hid h.2
    clear e0 h hf hc hcap
    generalize hy0 : l.getD k 0 = y at *
    generalize hn0 : nT y = n at *
    have hn2 : (y < 3 → n = 1) ∧ (¬ y < 3 → n = 2) := by
      constructor
      · intro hh; rw [hn1, if_pos hh]
      · intro hh; rw [hn1, if_neg hh]
    obtain ⟨y0, y4⟩ := hy
    have Hy0 := Lib.hid hy0
    clear hy0 hn0 hn1
    generalize wT (grp f) l k = Wt at *
    generalize trT (grp f) l k = Tr at *
    generalize grp f = G at *
    generalize hRR : rowsT l k = R at *
    clear hRR
    obtain ⟨q1, hq1⟩ : ∃ q, q = k + 1 := ⟨_, rfl⟩
    obtain ⟨q2, hq2⟩ : ∃ q, q = k + 2 := ⟨_, rfl⟩
    rw [← hq1] at HG HRc HRd
    rw [← hq2] at HRc HRd
    have he1 : (k : Int) + 1 = (q1 : Int) := by omega
    have he2 : (k : Int) + 2 = (q2 : Int) := by omega
    have Hq1 := Lib.hid hq1
    have Hq2 := Lib.hid hq2
    have hk8 := hk
    clear hq1 hq2
    go_enter Try.func97, Try.ntmps97
    go_wp2
    go_loopw [5, 6] (fun s i wr => ∃ t : Nat, t ≤ n ∧ i = .int .i64 (t : Int) ∧ s = .int .i64 (Wt t) ∧ Hid (Below w.heap.size w wr)) (fun _ i _ => 3 - (intOf i).toNat)
    case atStart => exact ⟨0, Nat.zero_le _, rfl, by rw [HT0.out], Lib.hid (Below.refl _ _)⟩
    case round =>
      obtain ⟨t, ht, rfl, rfl, hbw⟩ := hrel
      have hszb := hbw.out.size
      have c1 := HC.out wr hbw.out k hk9
      rw [Hy0.out] at c1
      obtain ⟨x0, x1⟩ := HB.out t (by omega)
      have x2 : Wt t ≤ 2000 := by omega
      by_cases hlt : t < n
      · have r0 : 0 ≤ y - 3 * (t : Int) := by omega
        have r4 : y - 3 * (t : Int) ≤ 4 := by omega
        have HT1 := Lib.hid (HT.out t)
        have Hlt := Lib.hid hlt
        have d2 : decide (3 * (t : Int) ≤ y) = true := decide_eq_true (by omega)
        have HN2 := Lib.hid (fun l' => HN.out _ l' r0)
        have t2 : t ≤ 2 := by omega
        clear x1
        obtain ⟨r, hr⟩ : ∃ r, y - 3 * (t : Int) = r := ⟨_, rfl⟩
        rw [hr] at HT1 HN2 r0 r4
        generalize Wt t = x at *
        by_cases hr0 : r = 0
        · subst hr0
          have HZ := Lib.hid (HE2.out 0 l HRa.out)
          obtain ⟨z0, z1⟩ := HS.out l Hnine.out
          have HG2 := Lib.hid (HG.out l (.slice (some ⟨b, off, none⟩) 9 cap) wr Hnine.out (HS0.out.later hbw.out))
          generalize G l = gz at *
          go_wp2_with (go_at_call 97; (refine (HG2.out).mono ?_); rintro e w1 ⟨rfl, hb⟩; have Hb := Lib.hid (hbw.out.trans (hb.mono hbw.out.size)); clear hb)
          go_roundw
          case rel => exact ⟨t + 1, Hlt.out, by go_num, by rw [HT1.out, HZ.out], Hb⟩
          case measure => simp [intOf]; omega
        · have d3 : (r == 0) = false := by rw [beq_eq_false_iff_ne]; exact hr0
          have Hr0 := Lib.hid hr0
          clear hr0
          by_cases hq : 9 < k + 3
          · have HZ := Lib.hid (HE1.out r (HRb.out r Hr0.out hq))
            have d4 : decide (9 ≤ (q2 : Int)) = true := decide_eq_true (by have := Hq2.out; omega)
            go_wp2
            go_roundw
            case rel => exact ⟨t + 1, Hlt.out, by go_num, by rw [HT1.out, HZ.out, Int.add_zero], hbw⟩
            case measure => simp [intOf]; omega
          · have d4 : decide (9 ≤ (q2 : Int)) = false := decide_eq_false (by have := Hq2.out; omega)
            have q19 : q1 < 9 := by have := Hq1.out; omega
            have q29 : q2 < 9 := by have := Hq2.out; omega
            have q12 : q2 ≠ q1 := by have := Hq1.out; have := Hq2.out; omega
            have c2 := HC.out wr hbw.out q1 q19
            have c3 := HC.out wr hbw.out q2 q29
            have HRc2 := Lib.hid (HRc.out r Hr0.out hq)
            have HRd2 := Lib.hid (HRd.out r Hr0.out hq)
            obtain ⟨u0, u4⟩ := Hbds.out q1 q19
            obtain ⟨s0, s4⟩ := Hbds.out q2 q29
            have HWA : Hid (Below w.heap.size w (wr.alloc (.cells #[] 2))) := Lib.hid (hbw.out.alloc hszb _)
            have HNc := Lib.hid (HNc0.out _ HWA.out)
            have HTW := Lib.hid (fun (w1 : World) (g c2 lo hi : Nat) (h : Sw (Value.int .i64) 0 w1 (.slice (some ⟨g, 0, none⟩) 9 c2) l lo hi) => two_facts h H9.out q1 q2 q19 q29 q12 (l.getD q1 0 - r) (l.getD q2 0 - r))
            have HAT := Lib.hid (fun (w1 : World) (g c2 lo hi : Nat) (h : Sw (Value.int .i64) 0 w1 (.slice (some ⟨g, 0, none⟩) 9 c2) l lo hi) => h.at0 q1 (by rw [H9.out]; exact q19))
            generalize l.getD q1 0 = l1 at *
            generalize l.getD q2 0 = l2 at *
            by_cases h1 : l1 < r
            · have HZ := Lib.hid (HE1.out r (HRc2.out (.inl h1)))
              have d5 : decide (l1 < r) = true := decide_eq_true h1
              clear h1
              go_wp2
              go_roundw
              case rel => exact ⟨t + 1, Hlt.out, by go_num, by rw [HT1.out, HZ.out, Int.add_zero], hbw⟩
              case measure => simp [intOf]; omega
            · have d5 : decide (l1 < r) = false := decide_eq_false h1
              by_cases h2 : l2 < r
              · have HZ := Lib.hid (HE1.out r (HRc2.out (.inr h2)))
                have d6 : decide (l2 < r) = true := decide_eq_true h2
                clear h1 h2
                go_wp2
                go_roundw
                case rel => exact ⟨t + 1, Hlt.out, by go_num, by rw [HT1.out, HZ.out, Int.add_zero], hbw⟩
                case measure => simp [intOf]; omega
              · have d6 : decide (l2 < r) = false := decide_eq_false h2
                have hRd := HRd2.out (by omega)
                have hn9 := HN2.out _ hRd
                have HZ := Lib.hid (HE2.out r _ hRd)
                obtain ⟨z0, z1⟩ := HS.out _ hn9
                have HG2 := Lib.hid (fun u z hu => HG.out _ u z hn9 hu)
                clear hRd hn9 h1 h2
                generalize (l.set q1 (l1 - r)).set q2 (l2 - r) = L2 at *
                generalize G L2 = gz at *
                go_wp2_with (first | (at_builtin; refine wpList_append_lies _ rfl _ _ 25 rfl wr.heap.size 2 i0 (.int .i64 0) 1 8 (by kernel_rfl) hi hz0 hz1 hz2 rfl (by decide) _ _ _ rfl (own_zeroT wr wr.heap.size _ (Nat.le_refl _)) ⟨b, off, none⟩ 9 cap (l.map (Value.int .i64)) rfl HNl.out HNc.out HN1.out (by decide) (by unfold maxLen; omega) (by omega) (by simp) _ rfl ?_; intro g c2 w1 hown hgrow hat hlt; obtain ⟨hsw, hbw1⟩ := clone_facts H9.out hown hgrow; clear hown hgrow hat hlt; obtain ⟨a1, a2⟩ := HAT.out _ _ _ _ _ hsw; obtain ⟨a3, a4, hsw3⟩ := HTW.out _ _ _ _ _ hsw; have hgl := (hsw.block (by rw [H9.out]; decide)).1; have HL3 := Lib.hid hsw3.sl; have HB3 := Lib.hid (((hbw.out.trans (hbw1.mono hbw.out.size)).setCell (p := ⟨g, q1, none⟩) (Nat.le_trans hszb hgl) (Value.int .i64 (l1 - r))).setCell (p := ⟨g, q2, none⟩) (Nat.le_trans hszb hgl) (Value.int .i64 (l2 - r))); clear hsw hsw3 hbw1 hgl) | (go_at_call 97; (refine (HG2.out _ _ HL3.out).mono ?_); rintro e w3 ⟨rfl, hb⟩; have Hb := Lib.hid (HB3.out.trans (hb.mono HB3.out.size)); clear hb))
                go_roundw
                case rel => exact ⟨t + 1, Hlt.out, by go_num, by rw [HT1.out, HZ.out], Hb⟩
                case measure => simp [intOf]; omega
      · obtain rfl : t = n := by omega
        have d2 : decide (3 * (t : Int) ≤ y) = false := decide_eq_false (by omega)
        clear x1
        go_wp2
        go_ret
        exact ⟨rfl, hbw.out⟩
end Go.Proofs.Ytglmahgbdgbbpaa
