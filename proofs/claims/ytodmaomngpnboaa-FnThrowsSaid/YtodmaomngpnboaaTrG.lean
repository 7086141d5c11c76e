/- Contracts: throws that are learned, the model. -/
import Derived.Test.YtodmaomngpnboaaTrF
set_option linter.unusedVariables false
namespace Go.Proofs.Ytodmaomngpnboaa
open Go.RowKit

theorem thrB_eq (fs : List Int) : (if oppB fs (thrN fs.length) = true then thrN fs.length else 0) = if thrB fs = true then thrN fs.length else 0 := by
  unfold thrB
  by_cases h : thrN fs.length = 0
  · rw [h]; split <;> split <;> rfl
  · rw [decide_eq_true h, Bool.true_and]
theorem two_made (w1 : World) (R : Array Value) (n : Nat) (t : TypeId) (hR : R.toList = List.replicate n (.int .i64 0)) (hn : 0 < n) :
    (((w1.alloc (.cells R t)).alloc (.cells R t)).cell? ⟨w1.heap.size, 0, none⟩ = some (.int .i64 0) ∧ ((w1.alloc (.cells R t)).alloc (.cells R t)).frozen? ⟨w1.heap.size, 0, none⟩ = false) ∧
    ((((w1.alloc (.cells R t)).alloc (.cells R t)).setCell ⟨w1.heap.size, 0, none⟩ (.int .i64 1)).cell? ⟨w1.heap.size + 1, 0, none⟩ = some (.int .i64 0) ∧ (((w1.alloc (.cells R t)).alloc (.cells R t)).setCell ⟨w1.heap.size, 0, none⟩ (.int .i64 1)).frozen? ⟨w1.heap.size + 1, 0, none⟩ = false) ∧
    Sw (Value.int .i64) 0 ((((w1.alloc (.cells R t)).alloc (.cells R t)).setCell ⟨w1.heap.size, 0, none⟩ (.int .i64 1)).setCell ⟨w1.heap.size + 1, 0, none⟩ (.int .i64 1)) (.slice (some ⟨w1.heap.size, 0, none⟩) n n) ((List.replicate n 0).set 0 1) w1.heap.size (w1.heap.size + 1) ∧
    Sw (Value.int .i64) 0 ((((w1.alloc (.cells R t)).alloc (.cells R t)).setCell ⟨w1.heap.size, 0, none⟩ (.int .i64 1)).setCell ⟨w1.heap.size + 1, 0, none⟩ (.int .i64 1)) (.slice (some ⟨w1.heap.size + 1, 0, none⟩) n n) ((List.replicate n 0).set 0 1) (w1.heap.size + 1) (w1.heap.size + 1 + 1) ∧
    Below w1.heap.size w1 ((((w1.alloc (.cells R t)).alloc (.cells R t)).setCell ⟨w1.heap.size, 0, none⟩ (.int .i64 1)).setCell ⟨w1.heap.size + 1, 0, none⟩ (.int .i64 1)) := by
  have S1 := (sw_zeros w1 R n t hR).later ((Below.refl _ _).alloc (Nat.le_refl _) (.cells R t))
  have S2 := sw_zeros (w1.alloc (.cells R t)) R n t hR
  rw [World.size_alloc] at S2
  have hb : Below w1.heap.size w1 ((w1.alloc (.cells R t)).alloc (.cells R t)) := ((Below.refl _ _).alloc (Nat.le_refl _) _).alloc (by simp) _
  generalize (w1.alloc (.cells R t)).alloc (.cells R t) = W at *
  have T1 := S1.store 0 (by rw [List.length_replicate]; exact hn) 1
  have O1 := (Only.refl w1.heap.size (w1.heap.size + 1) W).step' ⟨w1.heap.size, 0, none⟩ (.int .i64 1) (Nat.le_refl _) (by show w1.heap.size < _; omega)
  have S2' := S2.apart O1 (by omega)
  have T2 := S2'.store 0 (by rw [List.length_replicate]; exact hn) 1
  have O2 := (Only.refl (w1.heap.size + 1) (w1.heap.size + 1 + 1) (W.setCell ⟨w1.heap.size, 0, none⟩ (.int .i64 1))).step' ⟨w1.heap.size + 1, 0, none⟩ (.int .i64 1) (Nat.le_refl _) (by show w1.heap.size + 1 < _; omega)
  have T1' := T1.apart O2 (by omega)
  obtain ⟨_, _, e, _, _, k1, k2⟩ := S1.open' 0 (by rw [List.length_replicate]; exact hn)
  cases e
  obtain ⟨_, _, e, _, _, k3, k4⟩ := S2'.open' 0 (by rw [List.length_replicate]; exact hn)
  cases e
  rw [repl_at] at k1 k3
  exact ⟨⟨k1, k2⟩, ⟨k3, k4⟩, T1', T2, (hb.setCell (Nat.le_refl _) _).setCell (by show w1.heap.size ≤ w1.heap.size + 1; omega) _⟩
theorem two_madeF (F : World → World) (w1 : World) (R : Array Value) (n : Nat) (t : TypeId) (hF : ∀ z, F z = z.alloc (.cells R t)) (hR : R.toList = List.replicate n (.int .i64 0)) (hn : 0 < n) :
    ((F (F w1)).cell? ⟨w1.heap.size, 0, none⟩ = some (.int .i64 0) ∧ (F (F w1)).frozen? ⟨w1.heap.size, 0, none⟩ = false) ∧
    (((F (F w1)).setCell ⟨w1.heap.size, 0, none⟩ (.int .i64 1)).cell? ⟨(F w1).heap.size, 0, none⟩ = some (.int .i64 0) ∧ ((F (F w1)).setCell ⟨w1.heap.size, 0, none⟩ (.int .i64 1)).frozen? ⟨(F w1).heap.size, 0, none⟩ = false) ∧
    Sw (Value.int .i64) 0 (((F (F w1)).setCell ⟨w1.heap.size, 0, none⟩ (.int .i64 1)).setCell ⟨(F w1).heap.size, 0, none⟩ (.int .i64 1)) (.slice (some ⟨w1.heap.size, 0, none⟩) n n) ((List.replicate n 0).set 0 1) w1.heap.size (w1.heap.size + 1) ∧
    Sw (Value.int .i64) 0 (((F (F w1)).setCell ⟨w1.heap.size, 0, none⟩ (.int .i64 1)).setCell ⟨(F w1).heap.size, 0, none⟩ (.int .i64 1)) (.slice (some ⟨(F w1).heap.size, 0, none⟩) n n) ((List.replicate n 0).set 0 1) (w1.heap.size + 1) (w1.heap.size + 1 + 1) ∧
    Below w1.heap.size w1 (((F (F w1)).setCell ⟨w1.heap.size, 0, none⟩ (.int .i64 1)).setCell ⟨(F w1).heap.size, 0, none⟩ (.int .i64 1)) := by
  have e : (F w1).heap.size = w1.heap.size + 1 := by rw [hF]; simp
  rw [e, hF (F w1), hF w1]
  exact two_made w1 R n t hR hn
set_option maxRecDepth 100000 in
set_option maxHeartbeats 4000000 in
theorem spec_LearnThrows (fs : List Int) (v : Value) (r : Int) (al : -9223372036854775808 ≤ r) (au : r ≤ 9223372036854775807) (w : World) (hn : fs.length ≤ 1048576) (h : Sl (Value.int .i64) 0 w v fs) :
    Calls Try.prog 15 #[v, .int .i64 r] w fun e w' => ∃ r0 r1, e = .returned (.tuple #[r0, r1, .bool (ok_LearnThrows fs r)]) ∧ TwoR w w' r0 r1 (res_LearnThrows fs r) (res2_LearnThrows fs r) ∧ Below w.heap.size w w' := by
  have HT := Lib.hid (throwsS_any fs v w hn h)
  rw [thrB_eq] at HT
  have HS := Lib.hid h
  obtain ⟨p, cap, rfl, hf⟩ := h
  clear hf
  have HO := Lib.hid (show ok_LearnThrows fs r = (thrB fs && (decide (1 ≤ r) && decide (r ≤ 200))) from rfl)
  have HI := Lib.hid (fun z => inB_any r 1 200 z)
  by_cases hok : ok_LearnThrows fs r = true
  · have hok2 := hok
    rw [HO.out] at hok2
    simp only [Bool.and_eq_true, decide_eq_true_eq] at hok2
    obtain ⟨ht, r1, r2⟩ := hok2
    obtain ⟨n2, n5, hl, hbd⟩ := thrB_facts ht
    rw [if_pos ht] at HT
    rw [decide_eq_true r1, decide_eq_true r2] at HI
    have HR1 := Lib.hid (show res_LearnThrows fs r = (lrn fs (thrN fs.length) r.toNat).1 from if_pos hok)
    have HR2 := Lib.hid (show res2_LearnThrows fs r = (lrn fs (thrN fs.length) r.toNat).2 from if_pos hok)
    rw [hok, HR1.out, HR2.out]
    obtain ⟨n, hn'⟩ : ∃ n, n = thrN fs.length := ⟨_, rfl⟩
    rw [← hn'] at n2 n5 hl hbd HT ⊢
    obtain ⟨N, rfl⟩ : ∃ N : Nat, r = N := ⟨r.toNat, by omega⟩
    rw [Int.toNat_natCast]
    have HB := Lib.hid (fun cs v2 z (hcl : cs.length = n) (hc : ∀ k, 0 ≤ cs.getD k 0 ∧ cs.getD k 0 ≤ 200) (hz : Below w.heap.size w z) (h2 : Sl (Value.int .i64) 0 z v2 cs) => reply_any fs cs n _ v2 z n2 n5 hl hcl hbd hc (HS.out.later hz) h2)
    have Hlen := Lib.hid (lrn_len fs n)
    have Hbd := Lib.hid (lrn_bd fs n (by omega))
    have Hsucc := Lib.hid (lrn_succ fs n)
    have Hrep := Lib.hid (fun cs => (show repL fs n cs < n from repB_lt _ _ (by omega)))
    have H01 := Lib.hid (lrn_one fs n)
    have dn : ((n : Int) == 0) = false := by rw [beq_eq_false_iff_ne]; omega
    have dn2 : ((n : Int) = 0) = False := eq_false (by omega)
    clear hok ht HO HR1 HR2 hn' hl hbd HS
    generalize fs.length = L at *
    obtain ⟨i0, hi, hz0, hz1, hz2⟩ := info_parts (show (Try.prog.info? 2).map (fun i => (i.zero, i.size, i.bytes)) = some (some (.int .i64 0), 1, 8) by kernel_rfl)
    obtain ⟨R, hR⟩ : ∃ R : Array Value, R = madeCells (Value.int .i64 0).cells ((n : Int).toNat * i0.size) := ⟨_, rfl⟩
    have hRl : R.toList = List.replicate n (.int .i64 0) := by rw [hR, hz1, Nat.mul_one, Int.toNat_natCast]; exact made1 _ n
    have hmk : ∀ z : World, (Instr.makeSlice 22 (.int .i64 (n : Int)) (.int .i64 (n : Int))).run Try.prog z = .ok (.slice (some ⟨z.heap.size, 0, none⟩) n n) (z.alloc (.cells R 2)) := fun z => by
      have := run_make (P := Try.prog) (w := z) 22 2 i0 (.int .i64 0) (by kernel_rfl) hi hz0 .i64 .i64 (n : Int) (n : Int) (by omega) (Int.le_refl _) (by rw [hz2]; omega) (by omega)
      rw [← hR, Int.toNat_natCast] at this
      exact this
    have HRl := Lib.hid hRl
    obtain ⟨F, hF⟩ : ∃ F : World → World, ∀ z, F z = z.alloc (.cells R 2) := ⟨_, fun _ => rfl⟩
    have hmk2 : ∀ z : World, (Instr.makeSlice 22 (.int .i64 (n : Int)) (.int .i64 (n : Int))).run Try.prog z = .ok (.slice (some ⟨z.heap.size, 0, none⟩) n n) (F z) := fun z => by rw [hF]; exact hmk z
    have HF := Lib.hid hF
    clear hR hRl hi hz0 hz1 hz2 hmk hF
    go_enter Try.func15, Try.ntmps15
    go_wp2_with (first | (go_at_call 67; refine (HT.out).mono ?_; rintro e w1 ⟨rfl, hd1⟩; have Hb1 := Lib.hid (hd1.below w.heap.size); clear hd1; obtain ⟨⟨k1, k2⟩, ⟨k3, k4⟩, T1, T2, hbT⟩ := two_madeF F w1 R n 2 HF.out HRl.out (by omega); have HT1 := Lib.hid T1; have HT2 := Lib.hid T2; have HbT := Lib.hid hbT; clear T1 T2 hbT) | (go_at_call 68; refine (HI.out _).mono ?_; rintro e w' ⟨rfl, rfl⟩) | fail)
    have hsz := Hb1.out.size
    have Hbx := Lib.hid (Hb1.out.trans (HbT.out.mono Hb1.out.size))
    clear k1 k2 k3 k4 HbT Hb1 HT HI
    generalize ((F (F w1)).setCell ⟨w1.heap.size, 0, none⟩ (.int .i64 1)).setCell ⟨(F w1).heap.size, 0, none⟩ (.int .i64 1) = W2 at *
    have Hsz := Lib.hid hsz
    clear hsz
    generalize Value.slice (some ⟨w1.heap.size, 0, none⟩) n n = x at *
    generalize Value.slice (some ⟨(F w1).heap.size, 0, none⟩) n n = y at *
    go_loopw [10] (fun i wr => ∃ k : Nat, 1 ≤ k ∧ k ≤ N ∧ i = .int .i64 (k : Int) ∧ Hid (∃ a0 b0 a1 b1, Sw (Value.int .i64) 0 wr x (lrn fs n k).1 a0 b0 ∧ Sw (Value.int .i64) 0 wr y (lrn fs n k).2 a1 b1 ∧ w.heap.size ≤ a0 ∧ w.heap.size ≤ a1 ∧ (b0 ≤ a1 ∨ b1 ≤ a0)) ∧ Hid (Below w.heap.size w wr)) (fun i _ => N - (intOf i).toNat)
    case atStart =>
      refine ⟨1, by omega, by omega, rfl, Lib.hid ?_, Hbx⟩
      have := Hsz.out
      rw [H01.out]
      exact ⟨_, _, _, _, HT1.out, HT2.out, by omega, by omega, .inl (Nat.le_refl _)⟩
    case round =>
        obtain ⟨k, hk1, hk, rfl, hS, hW⟩ := hrel
        clear HT1 HT2 Hbx Hsz H01
        by_cases hlt : k < N
        · obtain ⟨a0, b0, a1, b1, s0, s1, g0, g1, gd⟩ := hS.out
          obtain ⟨l0, l1⟩ := Hlen.out k
          have hbk := Hbd.out k
          have HB1 := Lib.hid (fun z (hz : Below wr.heap.size wr z) => HB.out (lrn fs n k).2 _ z l1 (fun j => by have := (hbk j).2; omega) (hW.out.trans (hz.mono hW.out.size)) (s1.sl.later hz))
          have HB2 := Lib.hid (fun z (hz : Below wr.heap.size wr z) => HB.out (lrn fs n k).1 _ z l0 (fun j => by have := (hbk j).1; omega) (hW.out.trans (hz.mono hW.out.size)) (s0.sl.later hz))
          have hr0 := Hrep.out (lrn fs n k).2
          have hr1 := Hrep.out (lrn fs n k).1
          have hsu := Hsucc.out k
          have Hsu := Lib.hid hsu
          have HL := Lib.hid (And.intro l0 l1)
          have Hbk := Lib.hid hbk
          have HS0 := Lib.hid s0
          have HS1 := Lib.hid s1
          have HG := Lib.hid (And.intro g0 (And.intro g1 gd))
          clear hS hsu l0 l1 hbk s0 s1 g0 g1 gd
          generalize (lrn fs n k).1 = A at *
          generalize (lrn fs n k).2 = Bs at *
          generalize repL fs n Bs = X at *
          generalize repL fs n A = Y at *
          go_wp2_with fail
          refine (HB1.out _ (Below.refl _ _)).mono ?_
          rintro e w3 ⟨rfl, hd3⟩
          have hb3 := hd3.below wr.heap.size
          clear hd3
          have Hb3 := Lib.hid hb3
          clear hb3
          go_wp2_with fail
          refine (HB2.out _ Hb3.out).mono ?_
          rintro e w4 ⟨rfl, hd4⟩
          have hb4 := hd4.below w3.heap.size
          clear hd4
          have Hb4 := Lib.hid (Hb3.out.trans (hb4.mono Hb3.out.size))
          clear hb4 HB1 HB2
          have T0 := Lib.hid (HS0.out.later Hb4.out)
          have T1 := Lib.hid (HS1.out.later Hb4.out)
          have HW4 := Lib.hid (hW.out.trans (Hb4.out.mono hW.out.size))
          have hpn : 0 < n := by omega
          obtain ⟨g0, g1, gd⟩ := HG.out
          obtain ⟨l0, l1⟩ := HL.out
          obtain ⟨p0, c0, e0, z0⟩ := T0.out
          obtain ⟨p1, c1, e1, z1⟩ := T1.out
          rw [l0] at e0 z0
          rw [l1] at e1 z1
          obtain ⟨hc0, B0, o0, rfl, t0, t1, t2, z0'⟩ := z0 hpn
          obtain ⟨hc1, B1, o1, rfl, t3, t4, t5, z1'⟩ := z1 hpn
          subst e0
          subst e1
          have k1 := (z0' X (by omega)).1
          have k2 := (z0' X (by omega)).2
          have hne : B0 ≠ B1 := by omega
          have xA : X < A.length := by omega
          have yB : Y < Bs.length := by omega
          have U0 := T0.out.store X xA (A.getD X 0 + 1)
          have O0 := (Only.refl a0 b0 w4).step' ⟨B0, o0 + X, none⟩ (.int .i64 (A.getD X 0 + 1)) t0 t1
          have U1 := T1.out.apart O0 gd.symm
          have V1 := U1.store Y yB (Bs.getD Y 0 + 1)
          have O1 := (Only.refl a1 b1 (w4.setCell ⟨B0, o0 + X, none⟩ (.int .i64 (A.getD X 0 + 1)))).step' ⟨B1, o1 + Y, none⟩ (.int .i64 (Bs.getD Y 0 + 1)) t3 t4
          have V0 := U0.apart O1 gd
          have HV := Lib.hid (And.intro V0 V1)
          have HBe := Lib.hid (Below.only (Below.only HW4.out O0 g0) O1 g1)
          obtain ⟨_, _, e5, _, _, k3, k4⟩ := U1.open' Y yB
          cases e5
          have bx := (Hbk.out X).1
          have by' := (Hbk.out Y).2
          have HG2 := Lib.hid (And.intro g0 (And.intro g1 gd))
          clear z0 z1 z0' z1' U0 O0 U1 V1 O1 V0 T0 T1 Hbk HS0 HS1 HG HL Hb3 Hb4 hW HW4 g0 g1 gd t2 t5
          generalize hAx : A.getD X 0 = a at *
          generalize hBy : Bs.getD Y 0 = c at *
          have HAx := Lib.hid hAx
          have HBy := Lib.hid hBy
          clear hAx hBy xA yB
          obtain ⟨bx1, bx2⟩ := bx
          obtain ⟨by1, by2⟩ := by'
          have HVV : Hid (Sw (Value.int .i64) 0 ((w4.setCell ⟨B0, o0 + X, none⟩ (.int .i64 (a + 1))).setCell ⟨B1, o1 + Y, none⟩ (.int .i64 (c + 1))) (.slice (some ⟨B0, o0, none⟩) n c0) (lrn fs n (k + 1)).1 a0 b0 ∧ Sw (Value.int .i64) 0 ((w4.setCell ⟨B0, o0 + X, none⟩ (.int .i64 (a + 1))).setCell ⟨B1, o1 + Y, none⟩ (.int .i64 (c + 1))) (.slice (some ⟨B1, o1, none⟩) n c1) (lrn fs n (k + 1)).2 a1 b1) := Lib.hid (by rw [Hsu.out]; unfold bumpI; rw [HAx.out, HBy.out]; exact HV.out)
          go_wp2
          go_roundw
          case rel => exact ⟨k + 1, by omega, by omega, by go_num, Lib.hid ⟨a0, b0, a1, b1, HVV.out.1, HVV.out.2, HG2.out⟩, HBe⟩
          case measure => simp [intOf]; omega
        · obtain rfl : k = N := by omega
          have HFF := Lib.hid (And.intro hS.out hW.out)
          clear hS hW
          go_wp2
          go_ret3
          exact ⟨_, _, rfl, HFF.out.1, HFF.out.2⟩

  · rw [Bool.not_eq_true] at hok
    have HR1 := Lib.hid (show res_LearnThrows fs r = [] from if_neg (by rw [hok]; exact Bool.false_ne_true))
    have HR2 := Lib.hid (show res2_LearnThrows fs r = [] from if_neg (by rw [hok]; exact Bool.false_ne_true))
    rw [hok, HR1.out, HR2.out]
    rw [HO.out] at hok
    clear HO HR1 HR2 HS
    cases ht : thrB fs
    · rw [if_neg (by rw [ht]; exact Bool.false_ne_true)] at HT
      clear ht hok
      generalize fs.length = L at *
      go_enter Try.func15, Try.ntmps15
      go_wp2_with (first | (go_at_call 67; refine (HT.out).mono ?_; rintro e w1 ⟨rfl, hd1⟩; have Hb1 := Lib.hid (hd1.below w.heap.size); clear hd1))
      go_ret3
      exact ⟨_, _, rfl, TwoR.nil _ _, Hb1.out⟩
    · rw [if_pos ht] at HT
      rw [ht, Bool.true_and] at hok
      obtain ⟨n2, n5, -, -⟩ := thrB_facts ht
      rw [hok] at HI
      clear ht hok
      generalize thrN fs.length = n at *
      generalize fs.length = L at *
      have dn : ((n : Int) == 0) = false := by rw [beq_eq_false_iff_ne]; omega
      have dn2 : ((n : Int) = 0) = False := eq_false (by omega)
      go_enter Try.func15, Try.ntmps15
      go_wp2_with (first | (go_at_call 67; refine (HT.out).mono ?_; rintro e w1 ⟨rfl, hd1⟩; have Hb1 := Lib.hid (hd1.below w.heap.size); clear hd1) | (go_at_call 68; refine (HI.out _).mono ?_; rintro e w' ⟨rfl, rfl⟩))
      go_ret3
      exact ⟨_, _, rfl, TwoR.nil _ _, Hb1.out⟩
end Go.Proofs.Ytodmaomngpnboaa
