/- Contracts: heaps: a move that wins: HeapMove, the model. -/
import Derived.Test.YtglmahgbdgbbpaaYf
set_option linter.unusedVariables false
namespace Go.Proofs.Ytglmahgbdgbbpaa
open Go.RowKit

set_option maxRecDepth 100000 in
set_option maxHeartbeats 4000000 in
theorem spec_HeapMove0 (hs : List Int) (v : Value) (ms : List Int) (u : Value) (w : World) (hn : hs.length ≤ 1048576) (h : Sl (Value.int .i64) 0 w v hs) (hn' : ms.length ≤ 1048576) (h' : Sl (Value.int .i64) 0 w u ms) :
    Calls Try.prog 44 #[v, u] w fun e w' => HmEnd (resHM hs ms) ms e ∧ Below w.heap.size w w' := by
  have HT := Lib.hid (moves_spec ms u w hn' h')
  have HEn := Lib.hid (fun T h1 => HmEnd.no (T := T) (ms := ms) h1)
  cases hm : movB ms
  · have HE := Lib.hid (HEn.out (resHM hs ms) (by unfold resHM okHM; rw [hm]; rfl))
    rw [hm] at HT
    generalize resHM hs ms = T at *
    obtain ⟨p, cap, rfl, -⟩ := h
    obtain ⟨q, cap', rfl, -⟩ := h'
    clear hm HEn
    generalize hs.length = L at *
    generalize hM : ms.length = M at *
    clear hM
    go_enter Try.func44, Try.ntmps44
    go_wp2_with (go_at_call 78; (with_reducible refine HT.out.mono ?_); rintro e w1 ⟨rfl, hd⟩; have Hd := Lib.hid hd; clear hd)
    go_ret3
    exact ⟨HE.out, Hd.out.below _⟩
  · rw [hm] at HT
    obtain ⟨m1, m2, m3, m4⟩ := movB_at hm
    have HV := Lib.hid (fun w1 (hd : Drawn w w1) => (show Calls Try.prog 79 #[u, .int .i64 200] w1 fun e w' => ∃ r, e = .returned r ∧ Sw (Value.int .i64) 0 w' r (valT ms (200 + 1)) w1.heap.size w'.heap.size ∧ Below w1.heap.size w1 w' from valuesS_any ms u 200 w1 (by omega) m2 m3 (h'.drawn hd)))
    have e3 : okHM hs ms = ((decide (1 ≤ (hs.length : Int)) && decide ((hs.length : Int) ≤ 8)) && allB 0 200 hs) := by unfold okHM; rw [hm, Bool.true_and]
    by_cases hl : 1 ≤ (hs.length : Int) ∧ (hs.length : Int) ≤ 8
    · have Hbad := Lib.hid (fun k (hk : k < hs.length) h2 => show resHM hs ms = none by unfold resHM; rw [e3, allB_not (lo := 0) (hi := 200) (fs := hs) k hk h2, Bool.and_false]; rfl)
      have Hgood := Lib.hid (fun h2 => show resHM hs ms = scI (hitF hs ms) ms.length hs.length 0 by unfold resHM; rw [e3, allB_of (lo := 0) (hi := 200) (fs := hs) h2, decide_eq_true hl.1, decide_eq_true hl.2]; rfl)
      have HM3 := Lib.hid m3
      have Hf := Lib.hid h
      have Hg := Lib.hid h'
      obtain ⟨p, cap, rfl, -⟩ := h
      obtain ⟨q, cap', rfl, -⟩ := h'
      have Hst := Lib.hid (fun f i => scI_step (hitF hs ms) ms.length f i)
      have Hhit := Lib.hid (fun i f j g h => scC_hit (hit := hitF hs ms) (M := ms.length) (i := i) (f := f) (j := j) (g := g) h)
      have Hmiss := Lib.hid (fun i f j g h => scC_miss (hit := hitF hs ms) (M := ms.length) (i := i) (f := f) (j := j) (g := g) h)
      have Hend := Lib.hid (fun i j g => scC_end (hitF hs ms) ms.length i j g)
      have HI0 := Lib.hid (fun i => show scI (hitF hs ms) ms.length 0 i = none from rfl)
      have Hdef := Lib.hid (fun i j => show hitF hs ms i j = (decide (ms.getD j 0 ≤ hs.getD i 0) && ((hV ms).getD (hs.getD i 0 - ms.getD j 0).toNat 0 == bits .xor .i64 (allX hs (hV ms) hs.length) ((hV ms).getD (hs.getD i 0).toNat 0))) from rfl)
      have HX := Lib.hid (fun k => show allX hs (hV ms) (k + 1) = bits .xor .i64 (allX hs (hV ms) k) ((hV ms).getD (hs.getD k 0).toNat 0) from rfl)
      have HX0 := Lib.hid (show allX hs (hV ms) 0 = 0 from rfl)
      have HVl : Hid ((hV ms).length = 201) := Lib.hid (valT_len ms 201)
      have HVb : Hid (∀ i, -1 ≤ (hV ms).getD i 0 ∧ (hV ms).getD i 0 ≤ 8) := Lib.hid (fun i => hV_bd ms m2 201 i)
      have HEy := Lib.hid (fun T i j x h1 h2 => HmEnd.yes (T := T) (ms := ms) (i := i) (j := j) (x := x) h1 h2)
      have HXz := Lib.hid (fun (x y z : Int) (h1 : -1 ≤ z ∧ z ≤ 8) => xor_zero (bits .xor .i64 x y) z (xor_bd _ _) ⟨by omega, by omega⟩)
      have hVe : valT ms (200 + 1) = hV ms := rfl
      rw [hVe] at HV
      clear hm m1 m3 m4 e3 hVe
      generalize resHM hs ms = T at *
      generalize allX hs (hV ms) = XA at *
      generalize hitF hs ms = HF at *
      generalize hV ms = V at *
      obtain ⟨L, hL1⟩ : ∃ L, L = hs.length := ⟨_, rfl⟩
      obtain ⟨M, hM1⟩ : ∃ M, M = ms.length := ⟨_, rfl⟩
      have HLl := Lib.hid hL1
      have HMl := Lib.hid hM1
      rw [← hL1] at hl hn Hdef Hbad Hgood
      rw [← hL1]
      rw [← hM1] at m2 Hst Hhit Hmiss Hend HI0 HT HV Hgood
      rw [← hM1]
      rw [← hM1] at HM3
      clear hL1 hM1
      have HF' : Hid (∀ z, Below w.heap.size w z → 0 < L → L ≤ cap ∧ ∃ b off, p = some ⟨b, off, none⟩ ∧ ∀ i, i < L → z.cell? ⟨b, off + i, none⟩ = some (Value.int .i64 (hs.getD i 0))) := Lib.hid (by
        intro z hb h0
        obtain ⟨p', c', e, hx⟩ := (Hf.out.later hb)
        cases e
        obtain ⟨k1, b, off, e, k2, k3⟩ := hx (by rw [← HLl.out]; exact h0)
        rw [← HLl.out] at k1 k3
        exact ⟨k1, b, off, e, k3⟩)
      have HG : Hid (∀ z, Below w.heap.size w z → 0 < M → M ≤ cap' ∧ ∃ b off, q = some ⟨b, off, none⟩ ∧ ∀ i, i < M → z.cell? ⟨b, off + i, none⟩ = some (Value.int .i64 (ms.getD i 0))) := Lib.hid (by
        intro z hb h0
        obtain ⟨p', c', e, hx⟩ := (Hg.out.later hb)
        cases e
        obtain ⟨k1, b, off, e, k2, k3⟩ := hx (by rw [← HMl.out]; exact h0)
        rw [← HMl.out] at k1 k3
        exact ⟨k1, b, off, e, k3⟩)
      clear Hf Hg
      obtain ⟨l1, l8⟩ := hl
      have dl1 : decide ((L : Int) < 1) = false := decide_eq_false (by omega)
      have dl8 : decide (8 < (L : Int)) = false := decide_eq_false (by omega)
      go_enter Try.func44, Try.ntmps44
      go_wp2_with (first | (go_at_call 78; (with_reducible refine HT.out.mono ?_); rintro e w1 ⟨rfl, hd⟩; have Hd := Lib.hid hd; clear hd) | (go_at_call 79; (with_reducible refine (HV.out _ Hd.out).mono ?_); rintro e w2 ⟨r, rfl, hr, hb⟩; have Hb2 := Lib.hid ((Hd.out.below w.heap.size).trans (hb.mono (Hd.out.below w.heap.size).size)); have Hr2 := Lib.hid hr.sl; clear hb hr))
      obtain ⟨pv, cv, rfl, hv⟩ := Hr2.out
      rw [HVl.out] at hv
      obtain ⟨hcv, bv, ov, rfl, hbv, hcellv⟩ := hv (by omega)
      have Hcv := Lib.hid hcellv
      have HF2 := Lib.hid (HF'.out _ Hb2.out)
      have HG2 := Lib.hid (HG.out _ Hb2.out)
      clear hcellv hv Hr2 HF' HG HT HV
      rw [HVl.out]
      go_loop [7, 9] (fun a i => ∃ k : Nat, k ≤ L ∧ i = .int .i64 (k : Int) ∧ a = .int .i64 (XA k) ∧ Hid (∀ j, j < k → 0 ≤ hs.getD j 0 ∧ hs.getD j 0 ≤ 200)) (fun _ i => L - (intOf i).toNat)
      case atStart => exact ⟨0, Nat.zero_le _, rfl, by rw [HX0.out], Lib.hid (fun j h => absurd h (by omega))⟩
      case round =>
        obtain ⟨k, hk, rfl, rfl, hall⟩ := hrel
        by_cases hlt : k < L
        · obtain ⟨hcap, b, off, rfl, hcell⟩ := HF2.out (by omega)
          have c1 := hcell k hlt
          by_cases hx01 : 0 ≤ hs.getD k 0 ∧ hs.getD k 0 ≤ 200
          · have Hall2 : Hid (∀ j, j < k + 1 → 0 ≤ hs.getD j 0 ∧ hs.getD j 0 ≤ 200) := Lib.hid (fun j hj => by
              by_cases e : j = k
              · subst e; exact hx01
              · exact hall.out j (by omega))
            obtain ⟨x0, x1⟩ := hx01
            have hX := Lib.hid (HX.out k)
            obtain ⟨x, hx⟩ : ∃ x : Nat, hs.getD k 0 = x := ⟨(hs.getD k 0).toNat, by omega⟩
            rw [hx] at c1 hX x1
            rw [Int.toNat_natCast] at hX
            have c2 := Hcv.out x (by omega)
            have HIn := Lib.hid (fun z => in_yes (x : Int) 0 200 z (by omega) (by omega))
            clear hcell hx x0 hall
            generalize V.getD x 0 = y at *
            go_wp2_with (go_at_call 46; (with_reducible refine (HIn.out _).mono ?_); rintro e w3 ⟨rfl, rfl⟩)
            go_round
            case rel => exact ⟨k + 1, by omega, by go_num, by rw [hX.out], Hall2⟩
            case measure => simp [intOf]; omega
          · have HB := Lib.hid (HEn.out T (Hbad.out k hlt hx01))
            have HIn := Lib.hid (fun z => in_no (hs.getD k 0) 0 200 z (by omega))
            clear hcell hx01 hall
            generalize hs.getD k 0 = x at *
            go_wp2_with (go_at_call 46; (with_reducible refine (HIn.out _).mono ?_); rintro e w3 ⟨rfl, rfl⟩)
            go_ret3
            exact ⟨HB.out, Hb2.out⟩
        · obtain rfl : k = L := by omega
          have HT0 := Lib.hid (Hgood.out hall.out).symm
          have Hall := hall
          clear Hgood Hbad
          go_wp2
          go_loopw [10] (fun i wr => ∃ k' : Nat, k' ≤ k ∧ i = .int .i64 (k' : Int) ∧ Hid (scI HF M (k - k') k' = T) ∧ Drawn w2 wr) (fun i _ => k - (intOf i).toNat)
          case atStart => exact ⟨0, Nat.zero_le _, rfl, HT0, Drawn.refl _⟩
          case round =>
            obtain ⟨wo, rfl⟩ : ∃ z, z = wr := ⟨_, rfl⟩
            obtain ⟨i, hi, rfl, hsc, hdo⟩ := hrel
            have Hdo := Lib.hid hdo
            clear hdo
            by_cases hlt : i < k
            · obtain ⟨hcap, b, off, rfl, hcell⟩ := HF2.out (by omega)
              have c1' := hcell i hlt
              obtain ⟨x0, x1⟩ := Hall.out i hlt
              obtain ⟨x, hx⟩ : ∃ x : Nat, hs.getD i 0 = x := ⟨(hs.getD i 0).toNat, by omega⟩
              have Hd2 := Lib.hid (Hdef.out i)
              rw [hx] at c1' x1 Hd2
              rw [Int.toNat_natCast] at Hd2
              have C1 := Lib.hid c1'
              have C2 := Lib.hid (Hcv.out x (by omega))
              obtain ⟨f, hf⟩ : ∃ f, k - i = f + 1 := ⟨k - i - 1, by omega⟩
              have Hsc := Lib.hid (show scC HF M i M 0 f = T by rw [← Hst.out, ← hf]; exact hsc.out)
              have Hf9 := Lib.hid (show k - (i + 1) = f by omega)
              clear hcell hx x0 hf hsc c1'
              generalize V.getD x 0 = y at *
              generalize XA k = X at *
              have dik : decide (i < k) = true := decide_eq_true hlt
              go_wp2
              go_loopw [11] (fun jj wz => ∃ j : Nat, j ≤ M ∧ jj = .int .i64 (j : Int) ∧ Hid (scC HF M i (M - j) j f = T) ∧ Drawn w2 wz) (fun jj _ => M - (intOf jj).toNat)
              case atStart => exact ⟨0, Nat.zero_le _, rfl, Hsc, Hdo.out⟩
              case round =>
                obtain ⟨j, hj, rfl, hsj, hdz⟩ := hrel
                have Hdz := Lib.hid hdz
                have c1 := (hdz.cell _).trans C1.out
                have c2 := (hdz.cell _).trans C2.out
                by_cases hltj : j < M
                · obtain ⟨hcapm, bm, om, rfl, hcellm⟩ := HG2.out (by omega)
                  have c3 := (hdz.cell _).trans (hcellm j hltj)
                  obtain ⟨t0, t1⟩ := HM3.out j hltj
                  have hd3 := Hd2.out j
                  obtain ⟨g, hg⟩ : ∃ g, M - j = g + 1 := ⟨M - j - 1, by omega⟩
                  have Hg9 := Lib.hid (show M - (j + 1) = g by omega)
                  rw [hg] at hsj
                  have HEj := Lib.hid (fun h1 => HEy.out T i j (ms.getD j 0) h1 rfl)
                  clear hcellm hg
                  generalize ms.getD j 0 = t at *
                  by_cases htx : t ≤ (x : Int)
                  · obtain ⟨r, hr⟩ : ∃ r : Nat, (x : Int) - t = r := ⟨((x : Int) - t).toNat, by omega⟩
                    rw [decide_eq_true htx, hr, Int.toNat_natCast, Bool.true_and] at hd3
                    have c4 := (hdz.cell _).trans (Hcv.out r (by omega))
                    have hzb := HVb.out r
                    have d1 : decide (t ≤ (x : Int)) = true := decide_eq_true htx
                    have hrw : IntKind.i64.wrap ((x : Int) - t) = (r : Int) := by rw [hr]; exact IntWalk.i64_in _ (by omega)
                    have hr201 : r < 201 := by omega
                    generalize V.getD r 0 = z at *
                    have hxz := HXz.out X y z hzb
                    clear hdz hzb
                    cases hz : (z == bits .xor .i64 X y)
                    · rw [hz] at hd3 hxz
                      have Hn := Lib.hid (show scC HF M i g (j + 1) f = T by rw [← Hmiss.out _ _ _ _ hd3]; exact hsj.out)
                      have Hhz := Lib.hid hz
                      clear hd3 hz hsj
                      go_wp2
                      go_quiet (fail)
                      go_wp2
                      go_roundw
                      case rel => exact ⟨j + 1, by omega, by go_num, Lib.hid (by rw [Hg9.out]; exact Hn.out), Hdz.out.more _⟩
                      case measure => simp [intOf]; omega
                    · rw [hz] at hd3 hxz
                      have Hn := Lib.hid (show T = some (i, j) by rw [← Hhit.out _ g _ f hd3]; exact hsj.out.symm)
                      clear hd3 hz hsj
                      go_wp2
                      go_quiet (fail)
                      go_wp2
                      go_region
                      all_goals
                        go_wp2
                        go_ret3
                        exact ⟨HEj.out Hn.out, Hb2.out.trans ((Hdz.out.more _).below _)⟩
                  · rw [decide_eq_false htx, Bool.false_and] at hd3
                    have Hn := Lib.hid (show scC HF M i g (j + 1) f = T by rw [← Hmiss.out _ _ _ _ hd3]; exact hsj.out)
                    have d : decide (t ≤ (x : Int)) = false := decide_eq_false htx
                    clear hd3 htx hdz
                    go_wp2
                    go_quiet (fail)
                    go_wp2
                    go_roundw
                    case rel => exact ⟨j + 1, by omega, by go_num, Lib.hid (by rw [Hg9.out]; exact Hn.out), Hdz.out.more _⟩
                    case measure => simp [intOf]; omega
                · obtain rfl : j = M := by omega
                  have Hn := Lib.hid (show scI HF j f (i + 1) = T by rw [← Hend.out i j f]; have := hsj.out; rw [Nat.sub_self] at this; exact this)
                  clear hdz
                  go_wp2
                  go_roundw
                  case rel => exact ⟨i + 1, by omega, by go_num, Lib.hid (by rw [Hf9.out]; exact Hn.out), Hdz.out⟩
                  case measure => simp [intOf]; omega
            · obtain rfl : i = k := by omega
              have Hn := Lib.hid (show T = none by rw [← HI0.out i]; have := hsc.out; rw [Nat.sub_self] at this; exact this.symm)
              go_wp2
              go_ret3
              exact ⟨HEn.out T Hn.out, Hb2.out.trans (Hdo.out.below _)⟩
    · have e : (decide (1 ≤ (hs.length : Int)) && decide ((hs.length : Int) ≤ 8)) = false := by simpa using hl
      have HE := Lib.hid (HEn.out (resHM hs ms) (by unfold resHM; rw [e3, e, Bool.false_and]; rfl))
      generalize resHM hs ms = T at *
      obtain ⟨p, cap, rfl, -⟩ := h
      obtain ⟨q, cap', rfl, -⟩ := h'
      clear m1 m2 m3 m4 e e3 hm HV HEn
      generalize hs.length = L at *
      generalize hM : ms.length = M at *
      clear hM
      by_cases h1 : (L : Int) < 1
      · have d1 : decide ((L : Int) < 1) = true := decide_eq_true h1
        clear hl
        go_enter Try.func44, Try.ntmps44
        go_wp2_with (go_at_call 78; (with_reducible refine HT.out.mono ?_); rintro e w1 ⟨rfl, hd⟩; have Hd := Lib.hid hd; clear hd)
        go_ret3
        exact ⟨HE.out, Hd.out.below _⟩
      · have d1 : decide ((L : Int) < 1) = false := decide_eq_false h1
        have d2 : decide (8 < (L : Int)) = true := decide_eq_true (by omega)
        clear hl
        go_enter Try.func44, Try.ntmps44
        go_wp2_with (go_at_call 78; (with_reducible refine HT.out.mono ?_); rintro e w1 ⟨rfl, hd⟩; have Hd := Lib.hid hd; clear hd)
        go_ret3
        exact ⟨HE.out, Hd.out.below _⟩
theorem hm_ret {hs ms : List Int} {e : Ending} (h : HmEnd (resHM hs ms) ms e) : e = .returned (.tuple #[.int .i64 (res_HeapMove hs ms), .int .i64 (res2_HeapMove hs ms), .bool (ok_HeapMove hs ms)]) := h
theorem spec_HeapMove (hs : List Int) (v : Value) (ms : List Int) (u : Value) (w : World) (hn : hs.length ≤ 1048576) (h : Sl (Value.int .i64) 0 w v hs) (hn' : ms.length ≤ 1048576) (h' : Sl (Value.int .i64) 0 w u ms) :
    Calls Try.prog 44 #[v, u] w fun e w' => e = .returned (.tuple #[.int .i64 (res_HeapMove hs ms), .int .i64 (res2_HeapMove hs ms), .bool (ok_HeapMove hs ms)]) ∧ Below w.heap.size w w' :=
  (spec_HeapMove0 hs v ms u w hn h hn' h').mono fun _ _ ⟨h1, h2⟩ => ⟨hm_ret h1, h2⟩
theorem impl_HeapMove (hs : List Int) (v : Value) (ms : List Int) (u : Value) (w : World) (hn : hs.length ≤ 1048576) (h : Sl (Value.int .i64) 0 w v hs) (hn' : ms.length ≤ 1048576) (h' : Sl (Value.int .i64) 0 w u ms) :
    Calls Try.prog 45 #[v, u] w fun e w' => e = .returned (.tuple #[.int .i64 (res_HeapMove hs ms), .int .i64 (res2_HeapMove hs ms), .bool (ok_HeapMove hs ms)]) ∧ Below w.heap.size w w' :=
  (impl_HeapMove0 hs v ms u w hn h hn' h').mono fun _ _ ⟨h1, h2⟩ => ⟨hm_ret h1, h2⟩
end Go.Proofs.Ytglmahgbdgbbpaa
