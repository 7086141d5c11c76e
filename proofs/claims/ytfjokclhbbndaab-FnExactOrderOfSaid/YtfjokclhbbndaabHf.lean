/- Contracts: cycles of a deck, in the model. -/
import Derived.Test.YtfjokclhbbndaabHd
import Derived.Test.YtfjokclhbbndaabEh
import Derived.RegionTactic
import Derived.BigQuiet
set_option linter.unusedVariables false
namespace Go.Proofs.Ytfjokclhbbndaab
open Go.RowKit

theorem insAt_at (l : List Int) (x : Int) (k : Nat) (hk : k ≤ l.length) : (insAt l x k)[k]? = some x := by
  unfold insAt
  rw [List.getElem?_append_right (by rw [List.length_take]; omega), List.length_take, Nat.min_eq_left hk, Nat.sub_self]; rfl
theorem insAt_lt (l : List Int) (x : Int) (k j : Nat) (hk : k ≤ l.length) (hj : j < k) : (insAt l x k)[j]? = some (l.getD j 0) := by
  unfold insAt
  rw [List.getElem?_append_left (by rw [List.length_take]; omega), List.getElem?_take_of_lt hj, List.getElem?_eq_getElem (by omega), getD_lt l 0 j (by omega)]
theorem set_two (A B : List Int) (a x : Int) : ((A ++ [a] ++ x :: B).set (A.length + 1) a).set A.length x = A ++ x :: a :: B := by
  simp
theorem insAt_swap (l : List Int) (x : Int) (q : Nat) (hq : q < l.length) : ((insAt l x (q + 1)).set (q + 1) (l.getD q 0)).set q x = insAt l x q := by
  have h1 : l.take (q + 1) = l.take q ++ [l[q]] := (List.take_append_getElem hq).symm
  have h2 : l.drop q = l[q] :: l.drop (q + 1) := List.drop_eq_getElem_cons hq
  have hl : (l.take q).length = q := by rw [List.length_take]; omega
  have h3 := set_two (l.take q) (l.drop (q + 1)) l[q] x
  rw [hl] at h3
  unfold insAt
  rw [getD_lt l 0 q hq, h2, h1]
  exact h3
theorem srt_mono {l : List Int} (h : Srt l) (i k : Nat) (hik : i ≤ k) (hk : k < l.length) : l.getD i 0 ≤ l.getD k 0 := by
  rw [getD_lt l 0 i (by omega), getD_lt l 0 k hk]
  by_cases e : i = k
  · subst e; exact Int.le_refl _
  · exact List.pairwise_iff_getElem.1 h i k (by omega) hk (by omega)
def mkL (fs : List Int) (i t : Nat) : List Bool := (List.range fs.length).map (markB fs.length (fN fs) i t)
def snL (fs : List Int) (i : Nat) : List Bool := (List.range fs.length).map (seenB fs.length (fN fs) i)
theorem snL_len (fs : List Int) (i : Nat) : (snL fs i).length = fs.length := by unfold snL; rw [List.length_map, List.length_range]
theorem mkL_zero (fs : List Int) (i : Nat) : mkL fs i 0 = snL fs i := List.map_congr_left (fun x _ => mark_zero _ _ _ _)
theorem mkL_at (fs : List Int) (i t x : Nat) (hx : x < fs.length) : (mkL fs i t)[x]? = some (markB fs.length (fN fs) i t x) := by
  unfold mkL
  rw [List.getElem?_map, List.getElem?_range hx]; rfl
theorem mkL_set (fs : List Int) (i t : Nat) : (mkL fs i t).set (itF (fN fs) i t) true = mkL fs i (t + 1) := by
  unfold mkL
  apply List.ext_getElem
  · simp
  · intro x h1 h2
    rw [List.getElem_set]
    simp only [List.getElem_map, List.getElem_range]
    rw [mark_succ]
    split
    · rename_i e; rw [e]; simp
    · rename_i e; rw [beq_eq_false_iff_ne.2 e, Bool.or_false]
theorem mkL_end {fs : List Int} (h : deckB fs = true) (i : Nat) (hi : i < fs.length) : mkL fs i (perF fs.length (fN fs) i) = snL fs (i + 1) :=
  List.map_congr_left (fun x _ => mark_end (fN_lt h) (fN_inj h) hi x)
theorem snL_same {fs : List Int} (h : deckB fs = true) (i : Nat) (hi : i < fs.length) (hl : leastB fs.length (fN fs) i = false) : snL fs (i + 1) = snL fs i :=
  List.map_congr_left (fun x _ => seen_same (fN_lt h) (fN_inj h) hi hl x)
theorem snL_zero (fs : List Int) : snL fs 0 = List.replicate fs.length false := by
  unfold snL
  apply List.ext_getElem
  · simp
  · intro x h1 h2
    simp only [List.getElem_map, List.getElem_range, List.getElem_replicate]
    exact seen_zero _ _ _

theorem own_keep {w w' : World} {base : Nat} {e : TypeId} {size : Nat} {v : Value} {n : Nat} {xs : List Value} (h : w.ownsRow base e size v n xs) (hk : ∀ g, base ≤ g → w'.heap[g]? = w.heap[g]?) : w'.ownsRow base e size v n xs := by
  refine ⟨h.1, ?_⟩
  rcases h.2 with h' | ⟨g, cap, cur, h1, h2, h3, h4⟩
  · exact .inl h'
  · exact .inr ⟨g, cap, cur, h1, h2, (hk g h2).trans h3, h4⟩
theorem own_keep1 {w w' : World} {base : Nat} {e : TypeId} {size g n m c : Nat} {xs : List Value} (h : w.ownsRow base e size (.slice (some ⟨g, 0, none⟩) m c) n xs) (hk : w'.heap[g]? = w.heap[g]?) : w'.ownsRow base e size (.slice (some ⟨g, 0, none⟩) m c) n xs := by
  refine ⟨h.1, ?_⟩
  rcases h.2 with h' | ⟨g', cap, cur, h1, h2, h3, h4⟩
  · exact .inl h'
  · cases h1
    exact .inr ⟨g, _, cur, rfl, h2, hk.trans h3, h4⟩
theorem own_open2 {w : World} {base : Nat} {e : TypeId} {v : Value} {n : Nat} {xs : List Value} (h : w.ownsRow base e 1 v n xs) (h0 : 0 < n) :
    ∃ g cap, v = .slice (some ⟨g, 0, none⟩) n cap ∧ base ≤ g ∧ n ≤ cap ∧ g < w.heap.size := by
  rcases h.2 with ⟨_, hn⟩ | ⟨g, cap, cur, rfl, hb, hg, hnc, _⟩
  · omega
  · exact ⟨g, cap, rfl, hb, hnc, (Array.getElem?_eq_some_iff.1 hg).1⟩

set_option maxHeartbeats 8000000 in
theorem cyc_spec (fs : List Int) (v : Value) (w : World) (hn : fs.length ≤ 1048576) (h : Sl (Value.int .i64) 0 w v fs) (hd : deckB fs = true) :
    Calls Try.prog 46 #[v] w fun e w' => ∃ r, e = .returned r ∧ Sw (Value.int .i64) 0 w' r (sortI (cycL fs fs.length)) w.heap.size w'.heap.size ∧ Below w.heap.size w w' := by
  obtain ⟨p, cap, rfl, hf⟩ := h
  have Hf := Lib.hid hf
  clear hf
  have Hint := Lib.hid (fN_int hd)
  have Hper : Hid (∀ q, q < fs.length → 1 ≤ perF fs.length (fN fs) q ∧ perF fs.length (fN fs) q ≤ fs.length) := Lib.hid (fun q hq => ⟨(per_spec (fN_lt hd) (fN_inj hd) hq).1, (per_spec (fN_lt hd) (fN_inj hd) hq).2.1⟩)
  have Hit : Hid (∀ q, q < fs.length → ∀ k, itF (fN fs) q k < fs.length) := Lib.hid (fun q hq k => itF_lt (fN_lt hd) hq k)
  have Hy := Lib.hid (cycL_yes fs)
  have Hno := Lib.hid (cycL_no fs)
  have Hcl := Lib.hid (cycL_len fs)
  have Hma := Lib.hid (mkL_at fs)
  have Hms := Lib.hid (mkL_set fs)
  have Hme := Lib.hid (fun i hi => mkL_end hd i hi)
  have Hmz := Lib.hid (mkL_zero fs)
  have Hsm := Lib.hid (fun i hi hl => snL_same hd i hi hl)
  have Hsz := Lib.hid (snL_zero fs)
  have Hss := Lib.hid (fun (i : Nat) (hi : i < fs.length) => seen_self (fN_lt hd) (fN_inj hd) hi)
  have Hmo := Lib.hid (fun (i t : Nat) (hi : i < fs.length) (hl : leastB fs.length (fN fs) i = true) (ht : t < perF fs.length (fN fs) i) => mark_open (fN_lt hd) (fN_inj hd) hi hl ht)
  have Hmc := Lib.hid (fun (i : Nat) (hi : i < fs.length) => mark_shut (fN_lt hd) (fN_inj hd) hi)
  have h52 := (deckB_len hd).2.1
  clear hd
  obtain ⟨i0, hi, hz0, hz1, hz2⟩ := info_parts (show (Try.prog.info? 2).map (fun i => (i.zero, i.size, i.bytes)) = some (some (.int .i64 0), 1, 8) by kernel_rfl)
  obtain ⟨ib, hib, hb0, hb1, hb2⟩ := info_parts (show (Try.prog.info? 4).map (fun i => (i.zero, i.size, i.bytes)) = some (some (.bool false), 1, 1) by kernel_rfl)
  generalize hlen : fs.length = n at *
  have Hlen := Lib.hid hlen
  clear hlen
  go_enter Try.func46, Try.ntmps46
  go_wp2_with (at_make; refine wpList_make_full _ rfl _ _ 53 rfl w.heap.size 4 ib (.bool false) 1 (by kernel_rfl) hib hb0 hb1 .i64 .i64 n n n rfl rfl rfl rfl (by rw [hb2]; omega) (by unfold maxLen; omega) (Nat.le_refl _) ?_; intro w1 hown hgrow; have hgl : w.heap.size < w1.heap.size := (hown.lt w.heap.size rfl).2; have Hown := Lib.hid hown; have Hbel := Lib.hid ((Below.refl _ w).grown hgrow (Nat.le_refl _) (by simp)); clear hown hgrow)
  go_loopw [4, 5] (fun ls i wr => ∃ (q : Nat) (L : Value), q ≤ n ∧ i = .int .i64 (q : Int) ∧ L = ls ∧ wr.ownsRow w.heap.size 4 1 (.slice (some ⟨w.heap.size, 0, none⟩) n n) n ((snL fs q).map Value.bool) ∧ wr.ownsRow (w.heap.size + 1) 2 1 ls (sortI (cycL fs q)).length ((sortI (cycL fs q)).map (Value.int .i64)) ∧ Below w.heap.size w wr) (fun _ i _ => n - (intOf i).toNat)
  case atStart =>
    refine ⟨0, _, Nat.zero_le _, rfl, rfl, ?_, ?_, Hbel.out.alloc (by omega) _⟩
    · have h0 := Hown.out
      have e : (madeCells (Value.bool false).cells (n * 1)).toList = (snL fs 0).map Value.bool := by
        rw [Hsz.out, Nat.mul_one, List.map_replicate]
        exact made1 _ n
      rw [e] at h0
      exact own_keep1 h0 (Below.heap_alloc _ _ _ hgl)
    · have e0 : sortI (cycL fs 0) = [] := by rw [cycL_zero]; simp [sortI]
      rw [e0]
      exact own_zero w1 (w.heap.size + 1) _ (fun _ => 0) hgl
  case round =>
    obtain ⟨q, L, hq, rfl, rfl, hown, hout, hb⟩ := hrel
    have HownS := Lib.hid hown
    have Hout := Lib.hid hout
    have Hb := Lib.hid hb
    have hgr := (hown.lt w.heap.size rfl).2
    clear hown hout hb
    by_cases hlt : q < n
    · obtain ⟨hcap, b, off, rfl, hbs, hc⟩ := Hf.out (by omega)
      have Hc : Hid (∀ (z : World), Below w.heap.size w z → ∀ x, x < n → z.cell? ⟨b, off + x, none⟩ = some (.int .i64 (fN fs x : Int))) := Lib.hid (fun z hz x hx => by rw [hz.cell hbs, hc x hx, Hint.out x hx])
      clear hc
      obtain ⟨p1, pn⟩ := Hper.out q hlt
      have HitQ := Lib.hid (Hit.out q hlt)
      have HyQ := Lib.hid (Hy.out q)
      have HnoQ := Lib.hid (Hno.out q)
      have HmoQ := Lib.hid (fun t => Hmo.out q t hlt)
      have HmcQ := Lib.hid (Hmc.out q hlt)
      have HmeQ := Lib.hid (Hme.out q hlt)
      have HssQ := Lib.hid (Hss.out q hlt)
      have HsmQ := Lib.hid (Hsm.out q hlt)
      have hcl : (sortI (cycL fs q)).length ≤ q := by rw [sortI_len]; exact Hcl.out q
      have Hst := Lib.hid (fun k => (show itF (fN fs) q (k + 1) = fN fs (itF (fN fs) q k) from rfl))
      generalize perF n (fN fs) q = per at *
      have hT : (leastB n (fN fs) q = true ∨ leastB n (fN fs) q = false) := by cases leastB n (fN fs) q <;> simp
      have HT := Lib.hid hT
      clear hT
      obtain ⟨wo, rfl⟩ : ∃ wo : World, wo = wr := ⟨_, rfl⟩
      go_wp2
      go_loopw [6, 7] (fun lg pl wz => ∃ t : Nat, t ≤ per ∧ lg = .int .i64 (t : Int) ∧ pl = .int .i64 ((itF (fN fs) q t : Nat) : Int) ∧ Hid (leastB n (fN fs) q = false → t = 0) ∧ wz.ownsRow w.heap.size 4 1 (.slice (some ⟨w.heap.size, 0, none⟩) n n) n ((mkL fs q t).map Value.bool) ∧ wz.ownsRow (w.heap.size + 1) 2 1 L (sortI (cycL fs q)).length ((sortI (cycL fs q)).map (Value.int .i64)) ∧ Below w.heap.size w wz) (fun lg _ _ => n + 1 - (intOf lg).toNat)
      case atStart => exact ⟨0, Nat.zero_le _, rfl, rfl, fun _ => rfl, by rw [Hmz.out]; exact HownS.out, Hout.out, Hb.out⟩
      case round =>
        obtain ⟨t, ht, rfl, rfl, h0, hown, hout, hb⟩ := hrel
        have hxl := HitQ.out t
        have cs : wr.cell? ⟨w.heap.size, itF (fN fs) q t, none⟩ = some (.bool (markB n (fN fs) q t (itF (fN fs) q t))) := by
          rw [hown.cellAt _ (by omega), List.getElem?_map, Hma.out q t _ hxl]; rfl
        have cf := hown.frozenAt (itF (fN fs) q t)
        by_cases hgo : leastB n (fN fs) q = true ∧ t < per
        · rw [HmoQ.out t hgo.1 hgo.2] at cs
          obtain ⟨hs1, _⟩ := hown.stored (itF (fN fs) q t) (.bool true)
          rw [← List.map_set, Hms.out q t] at hs1
          have hb2 := hb.setCell (p := ⟨w.heap.size, itF (fN fs) q t, none⟩) (Nat.le_refl _) (.bool true)
          have cx := Hc.out _ hb2 (itF (fN fs) q t) hxl
          rw [← Hst.out] at cx
          have hout2 : (wr.setCell ⟨w.heap.size, itF (fN fs) q t, none⟩ (.bool true)).ownsRow (w.heap.size + 1) 2 1 L (sortI (cycL fs q)).length ((sortI (cycL fs q)).map (Value.int .i64)) := own_keep hout (fun g hg => Below.heap_setCell _ _ _ _ (by simp; omega))
          have Hs1 := Lib.hid hs1
          have Hb2 := Lib.hid hb2
          have Hout2 := Lib.hid hout2
          have htp := hgo.2
          have Hl := Lib.hid hgo.1
          clear hs1 hb2 hout2 hown hout hb hgo
          generalize hx : itF (fN fs) q t = x at *
          go_wp2
          go_roundw
          case rel => exact ⟨t + 1, by omega, by go_num, rfl, Lib.hid (fun h => by rw [Hl.out] at h; exact Bool.noConfusion h), Hs1.out, Hout2.out, Hb2.out⟩
          case measure => simp [intOf]; omega
        · have hszr := hb.size
          have hgl2 := (hown.lt w.heap.size rfl).2
          cases hl : leastB n (fN fs) q
          · obtain rfl : t = 0 := h0.out hl
            have hmk : markB n (fN fs) q 0 (itF (fN fs) q 0) = true := by
              show markB n (fN fs) q 0 q = true
              rw [mark_zero, HssQ.out, hl]; rfl
            rw [hmk] at cs
            have e1 := HnoQ.out hl
            have e2 := HsmQ.out hl
            rw [Hmz.out, ← e2] at hown
            rw [← e1] at hout
            have Hown2 := Lib.hid hown
            have Hout2 := Lib.hid hout
            have Hb2 := Lib.hid hb
            clear hown hout hb hmk hl hgo e1 e2
            generalize hx : itF (fN fs) q 0 = x at *
            go_wp2
            go_roundw
            case rel => exact ⟨q + 1, L, by omega, by go_num, rfl, Hown2.out, Hout2.out, Hb2.out⟩
            case measure => simp [intOf]; omega
          · obtain rfl : t = per := by
              by_cases e : t < per
              · exact absurd ⟨hl, e⟩ hgo
              · omega
            rw [HmcQ.out] at cs
            have e1 := Lib.hid (HyQ.out hl)
            rw [HmeQ.out] at hown
            have Hown2 := Lib.hid hown
            have Hout2 := Lib.hid hout
            have Hb2 := Lib.hid hb
            clear hown hout hb hgo
            have dne : ((t : Int) = 0) = False := eq_false (by omega)
            generalize hx : itF (fN fs) q t = x at *
            go_wp2_with (at_builtin; refine wpList_append_own _ rfl _ _ 22 rfl (w.heap.size + 1) 2 i0 (.int .i64 0) 1 8 (by kernel_rfl) hi hz0 hz1 hz2 rfl (by decide) _ _ _ rfl (Hout2.out.alloc _) ⟨wr.heap.size, 0, none⟩ 1 1 [.int .i64 (t : Int)] rfl rfl (cell_one_new _ _ _) (one_int _) (by unfold maxLen; omega) (by omega) (by simp; omega) ?_; intro v2 w2 hown2 hgrow2 _; obtain ⟨g, cp, rfl, hgb, hcp, hgw⟩ := own_open2 hown2 (by omega))
            have hbw := ((Below.refl (w.heap.size + 1) wr).alloc (by omega) (.cells #[.int .i64 (t : Int)] 2)).grown hgrow2 (by simp; omega) (fun b hb => (Hout2.out.lt b hb).1)
            have Hsn := Lib.hid (own_keep1 Hown2.out (hbw.block w.heap.size (by omega)))
            have Hbb := Lib.hid (Hb2.out.trans (hbw.mono (by omega)))
            have hlS : Srt (sortI (cycL fs q)) := sortI_srt _
            have HlS := Lib.hid hlS
            have Hsnoc := Lib.hid (sortI_snoc (cycL fs q) (t : Int))
            rw [← e1.out] at Hsnoc
            generalize hL0 : sortI (cycL fs q) = L0 at *
            have hrow : w2.ownsRow (w.heap.size + 1) 2 1 (.slice (some ⟨g, 0, none⟩) (L0.length + 1) cp) (L0.length + 1) ((insAt L0 (t : Int) L0.length).map (Value.int .i64)) := by
              rw [insAt_all, List.map_append]; exact hown2
            have Hrow := Lib.hid hrow
            have h8 := HitQ
            clear hown2 hgrow2 hbw hrow hlS hL0 h8
            clear Hout2 Hown2 Hb2 HownS Hout Hb cs cf hx hgr
            clear hxl
            go_loopw [8] (fun kk wz => ∃ j : Nat, j ≤ L0.length ∧ kk = .int .i64 (j : Int) ∧ Hid (∀ i, j ≤ i → i < L0.length → (t : Int) < L0.getD i 0) ∧ wz.ownsRow w.heap.size 4 1 (.slice (some ⟨w.heap.size, 0, none⟩) n n) n ((snL fs (q + 1)).map Value.bool) ∧ wz.ownsRow (w.heap.size + 1) 2 1 (.slice (some ⟨g, 0, none⟩) (L0.length + 1) cp) (L0.length + 1) ((insAt L0 (t : Int) j).map (Value.int .i64)) ∧ Below w.heap.size w wz) (fun kk _ => (intOf kk).toNat)
            case atStart => exact ⟨L0.length, Nat.le_refl _, by go_num, Lib.hid (fun i h1 h2 => absurd h2 (by omega)), Hsn.out, Hrow.out, Hbb.out⟩
            case round =>
              obtain ⟨j, hj, rfl, hgt, hsn, hO, hb⟩ := hrel
              have HSN := Lib.hid hsn
              have HB := Lib.hid hb
              clear hsn hb
              have hil := insAt_len L0 (t : Int) j
              have c1 : wr.cell? ⟨g, j, none⟩ = some (.int .i64 (t : Int)) := by
                rw [hO.cellAt j (by omega), List.getElem?_map, insAt_at _ _ _ hj]; rfl
              cases j with
              | zero =>
                have He := Lib.hid (Hsnoc.out 0 (insAt_srt L0 (t : Int) 0 HlS.out hj (fun a h1 h2 => Int.le_of_lt (hgt.out a h1 h2)) (fun a h => absurd h (by omega))))
                have HO := Lib.hid hO
                clear hO hgt
                go_wp2_with fail
                go_quiet (fail)
                go_wp2
                go_roundw
                case rel => exact ⟨q + 1, _, by omega, by go_num, rfl, HSN.out, by rw [← He.out, insAt_len]; exact HO.out, below_drewN HB.out _⟩
                case measure => simp [intOf]; omega
              | succ i =>
                have c2 : wr.cell? ⟨g, i, none⟩ = some (.int .i64 (L0.getD i 0)) := by
                  rw [hO.cellAt i (by omega), List.getElem?_map, insAt_lt _ _ _ _ hj (by omega)]; rfl
                have dg : decide ((0 : Int) < (i : Int) + 1) = true := decide_eq_true (by omega)
                have dg2 : (0 : Int) < (i : Int) + 1 := by omega
                have hw1 : IntKind.i64.wrap ((i : Int) + 1 - 1) = (i : Int) := by rw [Int.add_sub_cancel]; exact IntWalk.i64_in _ (by omega)
                have hw2 : IntKind.i64.wrap (i : Int) = (i : Int) := IntWalk.i64_in _ (by omega)
                have ht1 : ((i : Int) + 1).toNat = i + 1 := by omega
                by_cases hsw : (t : Int) < L0.getD i 0
                · have hgt2 : Hid (∀ a, i ≤ a → a < L0.length → (t : Int) < L0.getD a 0) := Lib.hid (fun a h1 h2 => by
                    by_cases e : a = i
                    · subst e; exact hsw
                    · exact hgt.out a (by omega) h2)
                  have f1 := hO.frozenAt (i + 1)
                  obtain ⟨hO2, _⟩ := hO.stored (i + 1) (.int .i64 (L0.getD i 0))
                  have f2 := hO2.frozenAt i
                  have c3 : (wr.setCell ⟨g, i + 1, none⟩ (.int .i64 (L0.getD i 0))).cell? ⟨g, i, none⟩ = some (.int .i64 (L0.getD i 0)) := by
                    rw [World.cell?_setCell_other _ _ _ _ (by simp)]; exact c2
                  obtain ⟨hO3, _⟩ := hO2.stored i (.int .i64 (t : Int))
                  rw [← List.map_set, ← List.map_set, insAt_swap _ _ _ (by omega)] at hO3
                  have HO3 := Lib.hid hO3
                  have HSN2 := Lib.hid (own_keep1 HSN.out (w' := (wr.setCell ⟨g, i + 1, none⟩ (.int .i64 (L0.getD i 0))).setCell ⟨g, i, none⟩ (.int .i64 (t : Int))) ((Below.heap_setCell _ _ _ _ (by simp; omega)).trans (Below.heap_setCell _ _ _ _ (by simp; omega))))
                  have HB2 := Lib.hid ((HB.out.setCell (p := ⟨g, i + 1, none⟩) (by simp; omega) (.int .i64 (L0.getD i 0))).setCell (p := ⟨g, i, none⟩) (by simp; omega) (.int .i64 (t : Int)))
                  clear hO hO2 hO3 hgt
                  generalize L0.getD i 0 = y at *
                  have dsw : decide ((t : Int) < y) = true := decide_eq_true hsw
                  go_wp2_with fail
                  go_quiet (fail)
                  have f3 : ((wr.drewN nq).setCell ⟨g, i + 1, none⟩ (.int .i64 y)).frozen? ⟨g, i, none⟩ = false := f2
                  have c4 : ((wr.drewN nq).setCell ⟨g, i + 1, none⟩ (.int .i64 y)).cell? ⟨g, i, none⟩ = some (.int .i64 y) := c3
                  go_wp2
                  go_roundw
                  case rel => exact ⟨i, by omega, by go_num, hgt2, HSN2.out, HO3.out, below_drewN HB2.out nq⟩
                  case measure => first | (simp [intOf]; done) | (simp [intOf]; omega)
                · have hsw' : L0.getD i 0 ≤ (t : Int) := by omega
                  have He := Lib.hid (Hsnoc.out (i + 1) (insAt_srt L0 (t : Int) (i + 1) HlS.out hj (fun a h1 h2 => Int.le_of_lt (hgt.out a h1 h2)) (fun a h => Int.le_trans (srt_mono HlS.out a i (by omega) (by omega)) (by omega))))
                  have HO := Lib.hid hO
                  clear hO hgt
                  generalize L0.getD i 0 = y at *
                  have dsw : decide ((t : Int) < y) = false := decide_eq_false hsw
                  go_wp2_with fail
                  go_quiet (fail)
                  go_wp2
                  go_roundw
                  case rel => exact ⟨q + 1, _, by omega, by go_num, rfl, HSN.out, by rw [← He.out, insAt_len]; exact HO.out, below_drewN HB.out _⟩
                  case measure => simp [intOf]; omega
    · obtain rfl : q = n := by omega
      have e : (sortI (cycL fs q)).length = (sortI (cycL fs q)).length := rfl
      go_wp2
      go_ret
      exact ⟨_, rfl, (Sw.of_owns (own_mono Hout.out (by omega)) rfl), Hb.out⟩
end Go.Proofs.Ytfjokclhbbndaab
