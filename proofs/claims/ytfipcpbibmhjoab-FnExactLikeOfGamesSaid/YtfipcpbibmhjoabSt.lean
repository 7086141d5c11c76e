/- Contracts: how likely games are, in both texts. -/
import Derived.Test.YtfipcpbibmhjoabSs
import Derived.Test.YtfipcpbibmhjoabSh
set_option linter.unusedVariables false
namespace Go.Proofs.Ytfipcpbibmhjoab
open Go.RowKit Fl

def halfC (z : Nat) : Nat := fop .mul .f32 1056964608 (floatOfInt .f32 (z : Int))
theorem halfD (z : Nat) (h : z ≤ 2) : fop .quo .f32 (floatOfInt .f32 (z : Int)) 1073741824 = halfC z := by
  rcases (show z = 0 ∨ z = 1 ∨ z = 2 by omega) with rfl | rfl | rfl <;> decide +kernel
def quoA (a b : Nat) : Nat := fop .quo .f32 a (fop .add .f32 a b)
def quoB (a b : Nat) : Nat := fop .quo .f32 b (fop .add .f32 a b)
def termT (a b z : Nat) : Nat := fop .add .f32 (fop .mul .f32 (halfC z) (logC (quoA a b))) (fop .mul .f32 (fop .sub .f32 1065353216 (halfC z)) (logC (quoB a b)))
def likeT (ss : List Nat) (fs : List Int) : Nat → Nat
  | 0 => 0
  | k + 1 => fop .add .f32 (likeT ss fs k) (termT (cn .f32 (ss.getD (gx fs k) 0)) (cn .f32 (ss.getD (gy fs k) 0)) (gz fs k))
theorem cn_self {r S : Nat} (h : cn .f32 r = S) : cn .f32 S = S := by rw [← h, cn_cn]
theorem finOut_cn {r S : Nat} (h : cn .f32 r = S) : finOut r = finOut S :=
  out_same (f := finOut) (fun s hs => finOut_nan (fin_notNan hs)) (show cn .f32 r = cn .f32 S by rw [cn_self h, h])
theorem one_cn : cn .f32 1065353216 = 1065353216 := by decide +kernel
theorem two_cn : cn .f32 1073741824 = 1073741824 := by decide +kernel
theorem halfn_cn : cn .f32 1056964608 = 1056964608 := by decide +kernel
theorem zero_cn : cn .f32 0 = 0 := by decide +kernel
theorem ofInt_cn (n : Int) : cn .f32 (floatOfInt .f32 n) = floatOfInt .f32 n := cn_notNan (ofInt_notNan n)
theorem fop_of {op : BinOp} {x y r X Y : Nat} (h : FopR op .f32 x y r) (hx : cn .f32 x = X) (hy : cn .f32 y = Y) : cn .f32 r = fop op .f32 X Y := by rw [cn_of_cn h, hx, hy]
set_option maxHeartbeats 1000000 in
theorem share_any (x y : Int) (z : Nat) (w : World) (hz : z ≤ 2) :
    Calls Try.prog 70 #[.agg #[.int .i64 x, .int .i64 y, .int .i64 (z : Int)]] w fun e w' => ∃ r, e = .returned (.float .f32 r) ∧ cn .f32 r = halfC z ∧ r < 4294967296 ∧ Below w.heap.size w w' := by
  have Hb0 := Lib.hid ((Below.refl _ w).alloc (Nat.le_refl _) (.cells #[.int .i64 x, .int .i64 y, .int .i64 (z : Int)] 79))
  have HH := Lib.hid (halfD z hz)
  go_enter Try.func70, Try.ntmps70
  go_wp2_with (refine wpList_farith rfl .quo _ _ _ _ rfl (by simp) .f32 _ _ rfl rfl ?_; intro r n hr)
  go_ret
  exact ⟨_, rfl, by rw [fop_of hr.out (ofInt_cn _) two_cn]; exact HH.out, wf32 hr.out.wf, below_drewN Hb0.out _⟩
set_option maxRecDepth 100000 in
set_option maxHeartbeats 8000000 in
theorem like_impl (ss : List Nat) (u : Value) (n : Nat) (fs : List Int) (v : Value) (w : World) (hm : ss.length ≤ 1048576) (hw : ∀ x ∈ ss, x < 4294967296) (g : Sl (Value.float .f32) 0 w u ss) (hn : n ≤ 1048576) (h : SlK 3 w v n fs) (hv : gamesB (ss.length : Int) n fs = true) (hp : posAll ss = true) :
    Calls Try.prog 28 #[u, v] w fun e w' => e = .returned (.tuple #[.float .f32 (finOut (likeT ss fs n)).1, .bool (finOut (likeT ss fs n)).2]) ∧ Below w.heap.size w w' := by
  have Hg := Lib.hid (games_impl (ss.length : Int) n fs v w hn h)
  rw [hv] at Hg
  obtain ⟨-, hn2, hg⟩ := gamesB_at hv
  have Hpos := Lib.hid (fun z (hz : Below w.heap.size w z) => positives_any ss u z hm hw (g.later hz))
  rw [hp] at Hpos
  have Hat := Lib.hid (fun k hk => gAt_nat (hg k hk))
  have Hst := Lib.hid (fun k => show likeT ss fs (k + 1) = fop .add .f32 (likeT ss fs k) (termT (cn .f32 (ss.getD (gx fs k) 0)) (cn .f32 (ss.getD (gy fs k) 0)) (gz fs k)) from rfl)
  have H0 := Lib.hid (show likeT ss fs 0 = 0 from rfl)
  have Hwf := Lib.hid (lt_getD hw)
  have HFin := Lib.hid (fun r (h : cn .f32 r = likeT ss fs n) => finOut_cn h)
  have HN := Lib.hid (fun x hx z => number_impl x hx z)
  have HL := Lib.hid (fun x hx z => log_any x hx z)
  obtain ⟨p, hpe⟩ : ∃ p, p = ss.length := ⟨_, rfl⟩
  rw [← hpe] at Hg Hat Hpos hm
  have Hslen := Lib.hid hpe.symm
  have Hsl := Lib.hid h
  obtain ⟨-, q, cap, rfl, -⟩ := h
  obtain ⟨p1, cap1, rfl, hss⟩ := g
  have Hss := Lib.hid hss
  rw [← hpe] at Hpos ⊢
  clear hv hg hp hss hpe
  obtain ⟨V, hV⟩ : ∃ V, V = finOut (likeT ss fs n) := ⟨_, rfl⟩
  rw [← hV] at HFin ⊢
  clear hV
  go_enter Try.func28, Try.ntmps28
  go_wp2_with (first | (go_at_call 67; refine (Hg.out).mono ?_; rintro e w0 ⟨rfl, hb⟩; have Hb0 := Lib.hid hb; have hz3 := hb.size; clear hb) | (go_at_call 68; refine (Hpos.out _ Hb0.out).mono ?_; rintro e w1 ⟨C, hC1, rfl, hC2, hdr⟩; have Hb1 := Lib.hid (Below.still Hb0.out hdr.only); have hCe := (show C = p by have := hC2; simp at this; omega); clear hdr hC2))
  go_loopw [6, 27] (fun c i wr => ∃ (k : Nat) (r : Nat), k ≤ n ∧ i = .int .i64 (k : Int) ∧ c = .float .f32 r ∧ r < 4294967296 ∧ Hid (cn .f32 r = likeT ss fs k) ∧ Hid (Below w.heap.size w wr)) (fun _ i _ => n - (intOf i).toNat)
  case atStart => exact ⟨0, 0, Nat.zero_le _, rfl, rfl, by decide, Lib.hid (by rw [H0.out]; exact zero_cn), Hb1⟩
  case round =>
    obtain ⟨k, r, hk, rfl, rfl, wfr, Er, hb⟩ := hrel
    have hsz := hb.out.size
    by_cases hlt : k < n
    · skip
      obtain ⟨-, q', cap', e1, hf⟩ := Hsl.out
      cases e1
      obtain ⟨hcap, b, off, rfl, hbs, hc⟩ := hf (by omega)
      have c0 : wr.cell? ⟨b, off + k * 3, none⟩ = some (Value.int .i64 (fs.getD (k * 3) 0)) := by rw [hb.out.cell hbs]; exact hc (k * 3) (by omega)
      have c1 : wr.cell? ⟨b, off + k * 3 + 1, none⟩ = some (Value.int .i64 (fs.getD (k * 3 + 1) 0)) := by rw [hb.out.cell hbs]; exact hc (k * 3 + 1) (by omega)
      have c2 : wr.cell? ⟨b, off + k * 3 + 2, none⟩ = some (Value.int .i64 (fs.getD (k * 3 + 2) 0)) := by rw [hb.out.cell hbs]; exact hc (k * 3 + 2) (by omega)
      obtain ⟨a1, a2, a3, a4, a5, a6, a7⟩ := Hat.out k hlt
      rw [a1] at c0
      rw [a2] at c1
      rw [a3] at c2
      have hst := Hst.out k
      have wfa := Hwf.out (gx fs k)
      have wfb := Hwf.out (gy fs k)
      clear hc hf a1 a2 a3
      generalize gx fs k = x at *
      generalize gy fs k = y at *
      generalize gz fs k = z at *
      obtain ⟨hcap2, b2, off2, e2, hbs2, hsc⟩ := Hss.out (by rw [Hslen.out]; omega)
      cases e2
      have d0 : wr.cell? ⟨b2, off2 + x, none⟩ = some (Value.float .f32 (ss.getD x 0)) := by rw [hb.out.cell hbs2]; exact hsc x (by rw [Hslen.out]; omega)
      have d1 : wr.cell? ⟨b2, off2 + y, none⟩ = some (Value.float .f32 (ss.getD y 0)) := by rw [hb.out.cell hbs2]; exact hsc y (by rw [Hslen.out]; omega)
      clear hsc
      generalize ss.getD x 0 = a at *
      generalize ss.getD y 0 = b at *
      have Hst2 := Lib.hid hst
      clear hst
      have hba := (Below.refl _ wr).alloc (Nat.le_refl _) (.cells #[Value.int .i64 (x : Int), Value.int .i64 (y : Int), Value.int .i64 (z : Int)] 79)
      go_wp2
      obtain ⟨k0, k1, k2⟩ := alloc3_cells wr (Value.int .i64 (x : Int)) (Value.int .i64 (y : Int)) (Value.int .i64 (z : Int)) 79
      have d0' := cell_keep hba d0
      have d1' := cell_keep hba d1
      have Hbu := Lib.hid (hb.out.trans (hba.mono hsz))
      generalize wr.alloc (.cells #[Value.int .i64 (x : Int), Value.int .i64 (y : Int), Value.int .i64 (z : Int)] 79) = u at *
      clear c0 c1 c2 d0 d1 hba
      have HS := Lib.hid (fun t => share_any (x : Int) (y : Int) z t a6)
      go_region
      go_wp2_with (first | (go_at_call 70; refine (HS.out _).mono ?_; rintro e t1 ⟨h1, rfl, eh, wfh1, hb9⟩; have Eh1 := Lib.hid eh; have k0 := cell_keep hb9 k0; have k1 := cell_keep hb9 k1; have k2 := cell_keep hb9 k2; have Hbu : Hid (Below w.heap.size w t1) := Lib.hid (by first | exact below_step Hbu.out hb9 (Nat.le_refl _) | exact below_step (below_drewN Hbu.out _) hb9 (Nat.le_refl _) | exact below_step (Hbu.out.drew) hb9 (Nat.le_refl _)); clear hb9 eh) | (refine wpList_farith rfl .add _ _ _ _ rfl (by simp) .f32 a b rfl rfl ?_; intro s ns Hs; have Es := Lib.hid (show cn .f32 s = fop .add .f32 (cn .f32 a) (cn .f32 b) from fop_of Hs.out rfl rfl); have wfs := wf32 Hs.out.wf; clear Hs) | (refine wpList_farith rfl .quo _ _ _ _ rfl (by simp) .f32 a s rfl rfl ?_; intro q nq Hq; have Eq := Lib.hid (show cn .f32 q = quoA (cn .f32 a) (cn .f32 b) from fop_of Hq.out rfl Es.out); have wfq := wf32 Hq.out.wf; clear Hq) | (refine wpList_farith rfl .quo _ _ _ _ rfl (by simp) .f32 b s rfl rfl ?_; intro q2 nq2 Hq2; have Eq2 := Lib.hid (show cn .f32 q2 = quoB (cn .f32 a) (cn .f32 b) from fop_of Hq2.out rfl Es.out); have wfq2 := wf32 Hq2.out.wf; clear Hq2) | (go_at_call 71; (with_reducible refine (HL.out q wfq _).mono ?_); rintro e w' ⟨l, nll, rfl, rfl, hll⟩; have El := Lib.hid (show cn .f32 l = logC _ from (logC_of wfq hll).trans (by rw [Eq.out])); clear hll) | (go_at_call 71; (with_reducible refine (HL.out q2 wfq2 _).mono ?_); rintro e w' ⟨l2, nll2, rfl, rfl, hll2⟩; have El2 := Lib.hid (show cn .f32 l2 = logC _ from (logC_of wfq2 hll2).trans (by rw [Eq2.out])); clear hll2) | (refine wpList_farith rfl .mul _ _ _ _ rfl (by simp) .f32 h1 l rfl rfl ?_; intro won nwon Hwon; have Ewon := Lib.hid (show cn .f32 won = fop .mul .f32 (halfC z) (logC (quoA (cn .f32 a) (cn .f32 b))) from fop_of Hwon.out Eh1.out El.out); have wfwon := wf32 Hwon.out.wf; clear Hwon) | (refine wpList_farith rfl .sub _ _ _ _ rfl (by simp) .f32 1065353216 h1 rfl rfl ?_; intro g1 ng1 Hg1; have Eg1 := Lib.hid (show cn .f32 g1 = fop .sub .f32 1065353216 (halfC z) from fop_of Hg1.out one_cn Eh1.out); have wfg1 := wf32 Hg1.out.wf; clear Hg1) | (refine wpList_farith rfl .mul _ _ _ _ rfl (by simp) .f32 g1 l2 rfl rfl ?_; intro lost nlost Hlost; have Elost := Lib.hid (show cn .f32 lost = fop .mul .f32 (fop .sub .f32 1065353216 (halfC z)) (logC (quoB (cn .f32 a) (cn .f32 b))) from fop_of Hlost.out Eg1.out El2.out); have wflost := wf32 Hlost.out.wf; clear Hlost) | (refine wpList_farith rfl .add _ _ _ _ rfl (by simp) .f32 won lost rfl rfl ?_; intro u9 nu9 Hu9; have Eu9 := Lib.hid (show cn .f32 u9 = termT (cn .f32 a) (cn .f32 b) z from fop_of Hu9.out Ewon.out Elost.out); have wfu9 := wf32 Hu9.out.wf; clear Hu9) | (refine wpList_farith rfl .add _ _ _ _ rfl (by simp) .f32 r u9 rfl rfl ?_; intro r2 nr2 Hr2; have Er2 := Lib.hid (show cn .f32 r2 = fop .add .f32 (likeT ss fs k) (termT (cn .f32 a) (cn .f32 b) z) from fop_of Hr2.out Er.out Eu9.out); have wfr2 := wf32 Hr2.out.wf; clear Hr2))
      go_roundw
      case rel => exact ⟨k + 1, r2, by omega, by go_num, rfl, wfr2, Lib.hid (by rw [Hst2.out]; exact Er2.out), Lib.hid (by first | exact below_drewN Hbu.out _ | exact Hbu.out)⟩
      case measure => simp [intOf]; omega
    · obtain rfl : k = n := by omega
      have HV := Lib.hid (HFin.out r Er.out)
      have HNr := Lib.hid (fun z => HN.out r wfr z)
      rw [HV.out] at HNr
      clear Hat Hst Hwf HFin HN HL HV Hpos Hg
      go_wp2_with (go_at_call 72; refine (HNr.out _).mono ?_; rintro e w' ⟨rfl, hdr⟩; have Hbz := Lib.hid (Below.still hb.out hdr.only); clear hdr)
      go_ret2
      exact ⟨rfl, Hbz.out⟩
def ok_LikeOfGames (ss : List Nat) (n : Nat) (fs : List Int) : Bool := (gamesB (ss.length : Int) n fs && posAll ss) && (finOut (likeT ss fs n)).2
def res_LikeOfGames (ss : List Nat) (n : Nat) (fs : List Int) : Nat := if (gamesB (ss.length : Int) n fs && posAll ss) = true then (finOut (likeT ss fs n)).1 else 0
theorem ret2f {a b : Nat} {c d : Bool} (h : a = b) (g : c = d) : Ending.returned (.tuple #[.float .f32 a, .bool c]) = .returned (.tuple #[.float .f32 b, .bool d]) := by rw [h, g]
set_option maxRecDepth 100000 in
set_option maxHeartbeats 4000000 in
theorem impl_LikeOfGames (ss : List Nat) (u : Value) (n : Nat) (fs : List Int) (v : Value) (w : World) (hm : ss.length ≤ 1048576) (hw : ∀ x ∈ ss, x < 4294967296) (g : Sl (Value.float .f32) 0 w u ss) (hn : n ≤ 1048576) (h : SlK 3 w v n fs) :
    Calls Try.prog 28 #[u, v] w fun e w' => e = .returned (.tuple #[.float .f32 (res_LikeOfGames ss n fs), .bool (ok_LikeOfGames ss n fs)]) ∧ Below w.heap.size w w' := by
  unfold res_LikeOfGames ok_LikeOfGames
  cases hv : gamesB (ss.length : Int) n fs
  · rw [Bool.false_and, Bool.false_and, if_neg Bool.false_ne_true]
    have Hg := Lib.hid (games_impl (ss.length : Int) n fs v w hn h)
    rw [hv] at Hg
    obtain ⟨-, q, cap, rfl, -⟩ := h
    obtain ⟨p1, cap1, rfl, -⟩ := g
    clear hv
    generalize ss.length = p at *
    go_enter Try.func28, Try.ntmps28
    go_wp2_with (go_at_call 67; refine (Hg.out).mono ?_; rintro e w0 ⟨rfl, hb⟩; have Hb0 := Lib.hid hb; have hz3 := hb.size; clear hb)
    go_ret2
    exact ⟨rfl, Hb0.out⟩
  cases hp : posAll ss
  · rw [Bool.and_false, Bool.false_and, if_neg Bool.false_ne_true]
    have Hg := Lib.hid (games_impl (ss.length : Int) n fs v w hn h)
    rw [hv] at Hg
    have Hpos := Lib.hid (fun z (hz : Below w.heap.size w z) => positives_any ss u z hm hw (g.later hz))
    rw [hp] at Hpos
    obtain ⟨-, q, cap, rfl, -⟩ := h
    obtain ⟨p1, cap1, rfl, -⟩ := g
    clear hv hp
    go_enter Try.func28, Try.ntmps28
    go_wp2_with (first | (go_at_call 67; refine (Hg.out).mono ?_; rintro e w0 ⟨rfl, hb⟩; have Hb0 := Lib.hid hb; have hz3 := hb.size; clear hb) | (go_at_call 68; refine (Hpos.out _ Hb0.out).mono ?_; rintro e w1 ⟨C, hC1, rfl, hC2, hdr⟩; have Hb1 := Lib.hid (Below.still Hb0.out hdr.only); have hCe : ((C : Int) = (ss.length : Int)) = False := eq_false (beq_eq_false_iff_ne.1 hC2); have hCf : ((C : Int) != (ss.length : Int)) = true := bne_iff_ne.2 (beq_eq_false_iff_ne.1 hC2); clear hdr hC2))
    go_ret2
    exact ⟨rfl, Hb1.out⟩
  rw [Bool.true_and, if_pos rfl, Bool.true_and]
  exact like_impl ss u n fs v w hm hw g hn h hv hp
end Go.Proofs.Ytfipcpbibmhjoab
