/- Contracts: heaps: a move that wins: HeapMove, in both texts. -/
import Derived.Test.YtodmaomngpnboaaYe
import Derived.Test.YtodmaomngpnboaaYx
set_option linter.unusedVariables false
namespace Go.Proofs.Ytodmaomngpnboaa
open Go.RowKit

/-- the values of heaps of 0 to 200 things -/
def hV (ms : List Int) : List Int := valT ms 201
/-- the move j wins from the heap i -/
def hitF (hs ms : List Int) (i j : Nat) : Bool := decide (ms.getD j 0 ≤ hs.getD i 0) && ((hV ms).getD (hs.getD i 0 - ms.getD j 0).toNat 0 == bits .xor .i64 (allX hs (hV ms) hs.length) ((hV ms).getD (hs.getD i 0).toNat 0))
def okHM (hs ms : List Int) : Bool := movB ms && ((decide (1 ≤ (hs.length : Int)) && decide ((hs.length : Int) ≤ 8)) && allB 0 200 hs)
def resHM (hs ms : List Int) : Option (Nat × Nat) := if okHM hs ms = true then scI (hitF hs ms) ms.length hs.length 0 else none
def ok_HeapMove (hs ms : List Int) : Bool := (resHM hs ms).isSome
def res_HeapMove (hs ms : List Int) : Int := match resHM hs ms with
  | some p => (p.1 : Int)
  | none => 0
def res2_HeapMove (hs ms : List Int) : Int := match resHM hs ms with
  | some p => ms.getD p.2 0
  | none => 0
def HmEnd (T : Option (Nat × Nat)) (ms : List Int) (e : Ending) : Prop := e = .returned (.tuple #[.int .i64 (match T with | some p => (p.1 : Int) | none => 0), .int .i64 (match T with | some p => ms.getD p.2 0 | none => 0), .bool T.isSome])
theorem HmEnd.yes {T : Option (Nat × Nat)} {ms : List Int} {i j : Nat} {x : Int} (h : T = some (i, j)) (hx : ms.getD j 0 = x) : HmEnd T ms (.returned (.tuple #[.int .i64 (i : Int), .int .i64 x, .bool true])) := by subst h; subst hx; rfl
theorem HmEnd.no {T : Option (Nat × Nat)} {ms : List Int} (h : T = none) : HmEnd T ms (.returned (.tuple #[.int .i64 0, .int .i64 0, .bool false])) := by subst h; rfl
theorem hV_bd (ms : List Int) (hm : ms.length ≤ 8) : ∀ (k i : Nat), -1 ≤ (valT ms k).getD i 0 ∧ (valT ms k).getD i 0 ≤ 8
  | 0, i => by unfold valT; simp
  | k + 1, i => by
    have ih := hV_bd ms hm k i
    have h1 := mexN_le (leftT ms (valT ms k) k ms.length)
    have h2 := leftT_len ms (valT ms k) k ms.length
    rw [valT]
    simp only [List.getD] at ih ⊢
    by_cases h : i < (valT ms k).length
    · rw [List.getElem?_append_left h]; exact ih
    · rw [List.getElem?_append_right (by omega)]
      cases hj : i - (valT ms k).length with
      | zero => simp; omega
      | succ q => simp
set_option maxRecDepth 100000 in
set_option maxHeartbeats 4000000 in
theorem impl_HeapMove0 (hs : List Int) (v : Value) (ms : List Int) (u : Value) (w : World) (hn : hs.length ≤ 1048576) (h : Sl (Value.int .i64) 0 w v hs) (hn' : ms.length ≤ 1048576) (h' : Sl (Value.int .i64) 0 w u ms) :
    Calls Try.prog 41 #[v, u] w fun e w' => HmEnd (resHM hs ms) ms e ∧ Below w.heap.size w w' := by
  have HT := Lib.hid (impl_TakeValues ms u 200 (by omega) (by omega) w hn' h')
  have HL := Lib.hid (fun z => withinC_any (hs.length : Int) 1 8 z)
  have HA := Lib.hid (fun z (hb : Below w.heap.size w z) => areW_any hs v 0 200 z hn (h.later hb))
  unfold resHM
  cases hm : movB ms
  · have e0 : okHM hs ms = false := by unfold okHM; rw [hm]; rfl
    have e1 : ok_TakeValues ms 200 = false := by unfold ok_TakeValues okTV; rw [hm]; rfl
    rw [e1] at HT
    rw [if_neg (by rw [e0]; exact Bool.false_ne_true)]
    obtain ⟨p, cap, rfl, -⟩ := h
    obtain ⟨q, cap', rfl, -⟩ := h'
    have HE := Lib.hid (HmEnd.no (ms := ms) (T := none) rfl)
    clear hm e0 e1
    generalize hs.length = L at *
    generalize hM : ms.length = M at *
    clear hM
    go_enter Try.func41, Try.ntmps41
    go_wp2_with (go_at_call 38; (with_reducible refine HT.out.mono ?_); rintro e w1 ⟨r, rfl, hr, hb⟩; have Hb := Lib.hid hb; clear hb hr)
    go_ret3
    exact ⟨HE.out, Hb.out⟩
  · have e1 : ok_TakeValues ms 200 = true := by unfold ok_TakeValues okTV; rw [hm]; rfl
    have e2 : res_TakeValues ms 200 = hV ms := by unfold res_TakeValues okTV; rw [hm]; rfl
    rw [e1, e2] at HT
    obtain ⟨m1, m2, m3, m4⟩ := movB_at hm
    have e3 : okHM hs ms = ((decide (1 ≤ (hs.length : Int)) && decide ((hs.length : Int) ≤ 8)) && allB 0 200 hs) := by unfold okHM; rw [hm, Bool.true_and]
    rw [e3]
    clear e1 e2 e3 hm
    by_cases hl : 1 ≤ (hs.length : Int) ∧ (hs.length : Int) ≤ 8
    · rw [decide_eq_true hl.1, decide_eq_true hl.2] at HL ⊢
      cases hall : allB 0 200 hs
      · rw [hall] at HA
        rw [if_neg (by decide)]
        obtain ⟨p, cap, rfl, -⟩ := h
        obtain ⟨q, cap', rfl, -⟩ := h'
        have HE := Lib.hid (HmEnd.no (ms := ms) (T := none) rfl)
        clear hall m1 m2 m3 m4 hl
        generalize hs.length = L at *
        generalize hM : ms.length = M at *
        clear hM
        go_enter Try.func41, Try.ntmps41
        go_wp2_with (first | (go_at_call 38; (with_reducible refine HT.out.mono ?_); rintro e w1 ⟨r, rfl, hr, hb⟩; have Hb := Lib.hid hb; clear hb hr) | (go_at_call 71; (with_reducible refine (HL.out _).mono ?_); rintro e w3 ⟨rfl, rfl⟩) | (go_at_call 85; (with_reducible refine (HA.out _ Hb.out).mono ?_); rintro e w2 ⟨rfl, hb⟩; have Hb2 := Lib.hid (Hb.out.trans (hb.mono Hb.out.size)); clear hb))
        go_ret3
        exact ⟨HE.out, Hb2.out⟩
      · rw [hall] at HA
        rw [if_pos (by decide)]
        have Hall := Lib.hid (allB_at hall)
        have HM3 := Lib.hid m3
        have Hf := Lib.hid h
        have Hg := Lib.hid h'
        obtain ⟨p, cap, rfl, -⟩ := h
        obtain ⟨q, cap', rfl, -⟩ := h'
        have Hst := Lib.hid (fun f i => scI_step (hitF hs ms) ms.length f i)
        have Hhit := Lib.hid (fun i f j g h => scC_hit (hit := hitF hs ms) (M := ms.length) (i := i) (f := f) (j := j) (g := g) h)
        have Hmiss := Lib.hid (fun i f j g h => scC_miss (hit := hitF hs ms) (M := ms.length) (i := i) (f := f) (j := j) (g := g) h)
        have Hend := Lib.hid (fun i j g => scC_end (hitF hs ms) ms.length i j g)
        have HI0 := Lib.hid (fun i => show scI (hitF hs ms) ms.length 0 i = none from rfl)
        have Hdef := Lib.hid (fun i j => show hitF hs ms i j = (decide (ms.getD j 0 ≤ hs.getD i 0) && ((hV ms).getD (hs.getD i 0 - ms.getD j 0).toNat 0 == bits .xor .i64 (allX hs (hV ms) hs.length) ((hV ms).getD (hs.getD i 0).toNat 0))) from rfl)
        have HX := Lib.hid (fun k => show allX hs (hV ms) (k + 1) = bits .xor .i64 (allX hs (hV ms) k) ((hV ms).getD (hs.getD k 0).toNat 0) from rfl)
        have HX0 := Lib.hid (show allX hs (hV ms) 0 = 0 from rfl)
        have HVl : Hid ((hV ms).length = 201) := Lib.hid (valT_len ms 201)
        have HEy := Lib.hid (fun T i j x h1 h2 => HmEnd.yes (T := T) (ms := ms) (i := i) (j := j) (x := x) h1 h2)
        have HEn := Lib.hid (fun T h1 => HmEnd.no (T := T) (ms := ms) h1)
        generalize hT : scI (hitF hs ms) ms.length hs.length 0 = T
        have HT0 := Lib.hid hT
        clear hall m1 m3 m4 hT
        generalize allX hs (hV ms) = XA at *
        generalize hitF hs ms = HF at *
        generalize hV ms = V at *
        have HfS := Hf
        obtain ⟨L, hL1⟩ : ∃ L, L = hs.length := ⟨_, rfl⟩
        obtain ⟨M, hM1⟩ : ∃ M, M = ms.length := ⟨_, rfl⟩
        have HLl := Lib.hid hL1
        have HMl := Lib.hid hM1
        rw [← hL1] at hl HL HA hn HT0 Hdef
        rw [← hL1]
        rw [← hM1] at m2 HT Hst Hhit Hmiss Hend HI0 HT0
        rw [← hM1]
        rw [← hL1] at Hall
        rw [← hM1] at HM3
        clear hL1 hM1
        have HF : Hid (∀ z, Below w.heap.size w z → 0 < L → L ≤ cap ∧ ∃ b off, p = some ⟨b, off, none⟩ ∧ ∀ i, i < L → z.cell? ⟨b, off + i, none⟩ = some (Value.int .i64 (hs.getD i 0))) := Lib.hid (by
          intro z hb h0
          obtain ⟨p', c', e, hx⟩ := (Hf.out.later hb)
          cases e
          obtain ⟨k1, b, off, e, k2, k3⟩ := hx (by rw [← HLl.out]; exact h0)
          rw [← HLl.out] at k1 k3
          exact ⟨k1, b, off, e, k3⟩)
        have HG : Hid (∀ z, Below w.heap.size w z → 0 < M → M ≤ cap' ∧ ∃ b off, q = some ⟨b, off, none⟩ ∧ ∀ i, i < M → z.cell? ⟨b, off + i, none⟩ = some (Value.int .i64 (ms.getD i 0))) := Lib.hid (by
          intro z hb h0
          obtain ⟨p', c', e, hx⟩ := (Hg.out.later hb)
          cases e
          obtain ⟨k1, b, off, e, k2, k3⟩ := hx (by rw [← HMl.out]; exact h0)
          rw [← HMl.out] at k1 k3
          exact ⟨k1, b, off, e, k3⟩)
        clear Hf Hg HfS
        go_enter Try.func41, Try.ntmps41
        go_wp2_with (first | (go_at_call 38; (with_reducible refine HT.out.mono ?_); rintro e w1 ⟨r, rfl, hr, hb⟩; have Hb := Lib.hid hb; have Hr := Lib.hid hr.sl; clear hb hr) | (go_at_call 71; (with_reducible refine (HL.out _).mono ?_); rintro e w3 ⟨rfl, rfl⟩) | (go_at_call 85; (with_reducible refine (HA.out _ Hb.out).mono ?_); rintro e w2 ⟨rfl, hb⟩; have Hb2 := Lib.hid (Hb.out.trans (hb.mono Hb.out.size)); have Hr2 := Lib.hid (Hr.out.later hb); clear hb))
        obtain ⟨pv, cv, rfl, hv⟩ := Hr2.out
        rw [HVl.out] at hv
        obtain ⟨hcv, bv, ov, rfl, hbv, hcellv⟩ := hv (by omega)
        have Hcv := Lib.hid hcellv
        have HF2 := Lib.hid (HF.out _ Hb2.out)
        have HG2 := Lib.hid (HG.out _ Hb2.out)
        clear hcellv hv Hr Hr2 HF HG HA HT HL
        rw [HVl.out]
        go_loop [9, 37] (fun a i => ∃ k : Nat, k ≤ L ∧ i = .int .i64 (k : Int) ∧ a = .int .i64 (XA k)) (fun _ i => L - (intOf i).toNat)
        case atStart => exact ⟨0, Nat.zero_le _, rfl, by rw [HX0.out]⟩
        case round =>
          obtain ⟨k, hk, rfl, rfl⟩ := hrel
          by_cases hlt : k < L
          · obtain ⟨hcap, b, off, rfl, hcell⟩ := HF2.out (by omega)
            have c1 := hcell k hlt
            obtain ⟨x0, x1⟩ := Hall.out k hlt
            have hX := Lib.hid (HX.out k)
            obtain ⟨x, hx⟩ : ∃ x : Nat, hs.getD k 0 = x := ⟨(hs.getD k 0).toNat, by omega⟩
            rw [hx] at c1 hX x1
            rw [Int.toNat_natCast] at hX
            have c2 := Hcv.out x (by omega)
            clear hcell hx x0
            generalize V.getD x 0 = y at *
            go_wp2
            go_round
            case rel => exact ⟨k + 1, by omega, by go_num, by rw [hX.out]⟩
            case measure => simp [intOf]; omega
          · obtain rfl : k = L := by omega
            go_wp2
            go_loop [50] (fun i => ∃ k' : Nat, k' ≤ k ∧ i = .int .i64 (k' : Int) ∧ Hid (scI HF M (k - k') k' = T)) (fun i => k - (intOf i).toNat)
            case atStart => exact ⟨0, Nat.zero_le _, rfl, HT0⟩
            case round =>
              obtain ⟨i, hi, rfl, hsc⟩ := hrel
              by_cases hlt : i < k
              · obtain ⟨hcap, b, off, rfl, hcell⟩ := HF2.out (by omega)
                have c1 := hcell i hlt
                obtain ⟨x0, x1⟩ := Hall.out i hlt
                obtain ⟨x, hx⟩ : ∃ x : Nat, hs.getD i 0 = x := ⟨(hs.getD i 0).toNat, by omega⟩
                have Hd2 := Lib.hid (Hdef.out i)
                rw [hx] at c1 x1 Hd2
                rw [Int.toNat_natCast] at Hd2
                have c2 := Hcv.out x (by omega)
                obtain ⟨f, hf⟩ : ∃ f, k - i = f + 1 := ⟨k - i - 1, by omega⟩
                have Hsc := Lib.hid (show scC HF M i M 0 f = T by rw [← Hst.out, ← hf]; exact hsc.out)
                have Hf9 := Lib.hid (show k - (i + 1) = f by omega)
                clear hcell hx x0 hf hsc
                generalize V.getD x 0 = y at *
                generalize XA k = X at *
                go_wp2
                go_loop [63] (fun jj => ∃ j : Nat, j ≤ M ∧ jj = .int .i64 (j : Int) ∧ Hid (scC HF M i (M - j) j f = T)) (fun jj => M - (intOf jj).toNat)
                case atStart => exact ⟨0, Nat.zero_le _, rfl, Hsc⟩
                case round =>
                  obtain ⟨j, hj, rfl, hsj⟩ := hrel
                  by_cases hltj : j < M
                  · obtain ⟨hcapm, bm, om, rfl, hcellm⟩ := HG2.out (by omega)
                    have c3 := hcellm j hltj
                    obtain ⟨t0, t1⟩ := HM3.out j hltj
                    have hd3 := Hd2.out j
                    obtain ⟨g, hg⟩ : ∃ g, M - j = g + 1 := ⟨M - j - 1, by omega⟩
                    have Hg9 := Lib.hid (show M - (j + 1) = g by omega)
                    rw [hg] at hsj
                    have HtJ : Hid (ms.getD j 0 = ms.getD j 0) := Lib.hid rfl
                    have HEj := Lib.hid (fun h1 => HEy.out T i j (ms.getD j 0) h1 rfl)
                    clear hcellm hg HtJ
                    generalize ms.getD j 0 = t at *
                    by_cases htx : t ≤ (x : Int)
                    · obtain ⟨r, hr⟩ : ∃ r : Nat, (x : Int) - t = r := ⟨((x : Int) - t).toNat, by omega⟩
                      rw [decide_eq_true htx, hr, Int.toNat_natCast, Bool.true_and] at hd3
                      have c4 := Hcv.out r (by omega)
                      generalize V.getD r 0 = z at *
                      cases hz : (z == bits .xor .i64 X y)
                      · rw [hz] at hd3
                        have Hn := Lib.hid (show scC HF M i g (j + 1) f = T by rw [← Hmiss.out _ _ _ _ hd3]; exact hsj.out)
                        have Hhz := Lib.hid hz
                        clear hd3
                        generalize bits .xor .i64 X y = o at *
                        go_wp2
                        go_round
                        case rel => exact ⟨j + 1, by omega, by go_num, Lib.hid (by rw [Hg9.out]; exact Hn.out)⟩
                        case measure => simp [intOf]; omega
                      · rw [hz] at hd3
                        have Hn := Lib.hid (show T = some (i, j) by rw [← Hhit.out _ g _ f hd3]; exact hsj.out.symm)
                        clear hd3
                        generalize bits .xor .i64 X y = o at *
                        go_wp2
                        go_ret3
                        exact ⟨HEj.out Hn.out, Hb2.out⟩
                    · rw [decide_eq_false htx, Bool.false_and] at hd3
                      have Hn := Lib.hid (show scC HF M i g (j + 1) f = T by rw [← Hmiss.out _ _ _ _ hd3]; exact hsj.out)
                      have d : decide (t ≤ (x : Int)) = false := decide_eq_false htx
                      clear hd3 htx
                      go_wp2
                      go_round
                      case rel => exact ⟨j + 1, by omega, by go_num, Lib.hid (by rw [Hg9.out]; exact Hn.out)⟩
                      case measure => simp [intOf]; omega
                  · obtain rfl : j = M := by omega
                    have Hn := Lib.hid (show scI HF j f (i + 1) = T by rw [← Hend.out i j f]; have := hsj.out; rw [Nat.sub_self] at this; exact this)
                    go_wp2
                    go_round
                    case rel => exact ⟨i + 1, by omega, by go_num, Lib.hid (by rw [Hf9.out]; exact Hn.out)⟩
                    case measure => simp [intOf]; omega
              · obtain rfl : i = k := by omega
                have Hn := Lib.hid (show T = none by rw [← HI0.out i]; have := hsc.out; rw [Nat.sub_self] at this; exact this.symm)
                go_wp2
                go_ret3
                exact ⟨HEn.out T Hn.out, Hb2.out⟩
    · have e : (decide (1 ≤ (hs.length : Int)) && decide ((hs.length : Int) ≤ 8)) = false := by simpa using hl
      rw [e] at HL ⊢
      rw [Bool.false_and, if_neg (by decide)]
      obtain ⟨p, cap, rfl, -⟩ := h
      obtain ⟨q, cap', rfl, -⟩ := h'
      have HE := Lib.hid (HmEnd.no (ms := ms) (T := none) rfl)
      clear m1 m2 m3 m4 hl e
      generalize hs.length = L at *
      generalize hM : ms.length = M at *
      clear hM
      go_enter Try.func41, Try.ntmps41
      go_wp2_with (first | (go_at_call 38; (with_reducible refine HT.out.mono ?_); rintro e w1 ⟨r, rfl, hr, hb⟩; have Hb := Lib.hid hb; clear hb hr) | (go_at_call 71; (with_reducible refine (HL.out _).mono ?_); rintro e w3 ⟨rfl, rfl⟩))
      go_ret3
      exact ⟨HE.out, Hb.out⟩
end Go.Proofs.Ytodmaomngpnboaa
