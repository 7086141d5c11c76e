/- Contracts: throws that are learned, the program. -/
import Derived.Test.YtodmaomngpnboaaTrD
import Derived.Test.YtodmaomngpnboaaTrE
import Derived.Test.YtodmaomngpnboaaQa
set_option linter.unusedVariables false
namespace Go.Proofs.Ytodmaomngpnboaa
open Go.RowKit

def ok_LearnThrows (fs : List Int) (r : Int) : Bool := thrB fs && (decide (1 ≤ r) && decide (r ≤ 200))
def res_LearnThrows (fs : List Int) (r : Int) : List Int := if ok_LearnThrows fs r = true then (lrn fs (thrN fs.length) r.toNat).1 else []
def res2_LearnThrows (fs : List Int) (r : Int) : List Int := if ok_LearnThrows fs r = true then (lrn fs (thrN fs.length) r.toNat).2 else []
theorem len_LearnThrows (fs : List Int) (r : Int) : (res_LearnThrows fs r).length ≤ 1048576 := by
  unfold res_LearnThrows
  split
  · rw [(lrn_len fs _ _).1]; rcases thrN_bd fs.length with h | h <;> omega
  · show 0 ≤ 1048576; omega
theorem len2_LearnThrows (fs : List Int) (r : Int) : (res2_LearnThrows fs r).length ≤ 1048576 := by
  unfold res2_LearnThrows
  split
  · rw [(lrn_len fs _ _).2]; rcases thrN_bd fs.length with h | h <;> omega
  · show 0 ≤ 1048576; omega
/-- two results that lie apart -/
def TwoR (w w' : World) (r0 r1 : Value) (l0 l1 : List Int) : Prop :=
  ∃ a0 b0 a1 b1, Sw (Value.int .i64) 0 w' r0 l0 a0 b0 ∧ Sw (Value.int .i64) 0 w' r1 l1 a1 b1 ∧ w.heap.size ≤ a0 ∧ w.heap.size ≤ a1 ∧ (b0 ≤ a1 ∨ b1 ≤ a0)
theorem TwoR.nil (w w' : World) : TwoR w w' (.slice none 0 0) (.slice none 0 0) [] [] :=
  ⟨w.heap.size, w.heap.size, w.heap.size, w.heap.size, Sw.nil _ _ _ _ _ _ _, Sw.nil _ _ _ _ _ _ _, Nat.le_refl _, Nat.le_refl _, .inl (Nat.le_refl _)⟩
theorem sw_zeros (w : World) (R : Array Value) (n : Nat) (t : TypeId) (hR : R.toList = List.replicate n (.int .i64 0)) : Sw (Value.int .i64) 0 (w.alloc (.cells R t)) (.slice (some ⟨w.heap.size, 0, none⟩) n n) (List.replicate n 0) w.heap.size (w.heap.size + 1) := by
  refine ⟨_, _, by rw [List.length_replicate], fun _ => ⟨by rw [List.length_replicate]; exact Nat.le_refl _, w.heap.size, 0, rfl, Nat.le_refl _, by omega, by simp, fun i hi => ⟨?_, ?_⟩⟩⟩
  · rw [List.length_replicate] at hi
    rw [repl_at]
    refine (World.cell?_alloc_at _ _ _ _ rfl).trans ?_
    rw [Nat.zero_add, ← Array.getElem?_toList, hR, List.getElem?_replicate, if_pos hi]
  · rw [frozen?_alloc_cells]
    simp [World.frozen?]
theorem thrB_facts {fs : List Int} (h : thrB fs = true) : 2 ≤ thrN fs.length ∧ thrN fs.length ≤ 5 ∧ fs.length = thrN fs.length * thrN fs.length ∧ ∀ k, k < thrN fs.length * thrN fs.length → -9 ≤ fs.getD k 0 ∧ fs.getD k 0 ≤ 9 := by
  unfold thrB oppB at h
  simp only [Bool.and_eq_true, decide_eq_true_eq] at h
  rcases thrN_bd fs.length with e | ⟨a, b, c⟩
  · exact absurd e h.1
  · exact ⟨a, b, c, fun k hk => allB_at h.2.1 k (by omega)⟩
set_option maxRecDepth 100000 in
set_option maxHeartbeats 4000000 in
theorem impl_LearnThrows (fs : List Int) (v : Value) (r : Int) (al : -9223372036854775808 ≤ r) (au : r ≤ 9223372036854775807) (w : World) (hn : fs.length ≤ 1048576) (h : Sl (Value.int .i64) 0 w v fs) :
    Calls Try.prog 17 #[v, .int .i64 r] w fun e w' => ∃ r0 r1, e = .returned (.tuple #[r0, r1, .bool (ok_LearnThrows fs r)]) ∧ TwoR w w' r0 r1 (res_LearnThrows fs r) (res2_LearnThrows fs r) ∧ Below w.heap.size w w' := by
  have HT := Lib.hid (throws_any fs v w hn h)
  have HS := Lib.hid h
  obtain ⟨p, cap, rfl, hf⟩ := h
  clear hf
  have HO := Lib.hid (show ok_LearnThrows fs r = (thrB fs && (decide (1 ≤ r) && decide (r ≤ 200))) from rfl)
  by_cases hok : ok_LearnThrows fs r = true
  · have hok2 := hok
    rw [HO.out] at hok2
    simp only [Bool.and_eq_true, decide_eq_true_eq] at hok2
    obtain ⟨ht, r1, r2⟩ := hok2
    obtain ⟨n2, n5, hl, hbd⟩ := thrB_facts ht
    rw [ht] at HT
    have HR1 := Lib.hid (show res_LearnThrows fs r = (lrn fs (thrN fs.length) r.toNat).1 from if_pos hok)
    have HR2 := Lib.hid (show res2_LearnThrows fs r = (lrn fs (thrN fs.length) r.toNat).2 from if_pos hok)
    rw [hok, HR1.out, HR2.out]
    have H0 := Lib.hid (fun z => within_yes r 1 200 z r1 r2)
    obtain ⟨n, hn'⟩ : ∃ n, n = thrN fs.length := ⟨_, rfl⟩
    rw [← hn'] at n2 n5 hl hbd HT ⊢
    obtain ⟨N, rfl⟩ : ∃ N : Nat, r = N := ⟨r.toNat, by omega⟩
    rw [Int.toNat_natCast]
    have hcap : fs.length ≤ cap := by
      obtain ⟨_, _, e, hx⟩ := HS.out
      cases e
      exact (hx (by rw [hl]; exact Nat.mul_pos (by omega) (by omega))).1
    obtain ⟨b, off, rfl⟩ : ∃ b off, p = some ⟨b, off, none⟩ := by
      obtain ⟨_, _, e, hx⟩ := HS.out
      cases e
      obtain ⟨_, b, off, e2, _⟩ := hx (by rw [hl]; exact Nat.mul_pos (by omega) (by omega))
      exact ⟨b, off, e2⟩
    have HB := Lib.hid (fun cs v2 z (hcl : cs.length = n) (hc : ∀ k, 0 ≤ cs.getD k 0 ∧ cs.getD k 0 ≤ 200) (hz : Below w.heap.size w z) (h2 : Sl (Value.int .i64) 0 z v2 cs) => best_any fs cs n b off cap v2 z n2 n5 hl hcl hcap hbd hc (HS.out.later hz) h2)
    have Hlen := Lib.hid (lrn_len fs n)
    have Hbd := Lib.hid (lrn_bd fs n (by omega))
    have Hsucc := Lib.hid (lrn_succ fs n)
    have Hrep := Lib.hid (fun cs => (show repL fs n cs < n from repB_lt _ _ (by omega)))
    have H00 := Lib.hid (show lrn fs n 0 = (List.replicate n 0, List.replicate n 0) from rfl)
    have d1 : decide ((N : Int) < 1) = false := decide_eq_false (by omega)
    clear hok ht HO HR1 HR2 hn' hl hbd hcap HS
    generalize fs.length = L at *
    obtain ⟨i0, hi, hz0, hz1, hz2⟩ := info_parts (show (Try.prog.info? 2).map (fun i => (i.zero, i.size, i.bytes)) = some (some (.int .i64 0), 1, 8) by kernel_rfl)
    obtain ⟨R, hR⟩ : ∃ R : Array Value, R = madeCells (Value.int .i64 0).cells ((n : Int).toNat * i0.size) := ⟨_, rfl⟩
    have hRl : R.toList = List.replicate n (.int .i64 0) := by rw [hR, hz1, Nat.mul_one, Int.toNat_natCast]; exact made1 _ n
    have hmk : ∀ z : World, (Instr.makeSlice 22 (.int .i64 (n : Int)) (.int .i64 (n : Int))).run Try.prog z = .ok (.slice (some ⟨z.heap.size, 0, none⟩) n n) (z.alloc (.cells R 2)) := fun z => by
      have := run_make (P := Try.prog) (w := z) 22 2 i0 (.int .i64 0) (by kernel_rfl) hi hz0 .i64 .i64 (n : Int) (n : Int) (by omega) (Int.le_refl _) (by rw [hz2]; omega) (by omega)
      rw [← hR, Int.toNat_natCast] at this
      exact this
    have HRl := Lib.hid hRl
    clear hR hRl hi hz0 hz1 hz2
    go_enter Try.func17, Try.ntmps17
    go_wp2_with (first | (go_at_call 70; refine (HT.out).mono ?_; rintro e w1 ⟨rfl, hb1⟩; have Hb1 := Lib.hid hb1; clear hb1) | (go_at_call 71; refine (H0.out _).mono ?_; rintro e w' ⟨rfl, rfl⟩))
    go_region
    · have hb0 : Below w.heap.size w w1 := Hb1.out
      have S1 : Sw (Value.int .i64) 0 ((w1.alloc (.cells R 2)).alloc (.cells R 2)).drew (.slice (some ⟨w1.heap.size, 0, none⟩) n n) (List.replicate n 0) w1.heap.size (w1.heap.size + 1) := (sw_zeros w1 R n 2 HRl.out).later (((Below.refl _ _).alloc (Nat.le_refl _) _).drew)
      have S2 : Sw (Value.int .i64) 0 ((w1.alloc (.cells R 2)).alloc (.cells R 2)).drew (.slice (some ⟨w1.heap.size + 1, 0, none⟩) n n) (List.replicate n 0) (w1.heap.size + 1) (w1.heap.size + 1 + 1) := by
        have := sw_zeros (w1.alloc (.cells R 2)) R n 2 HRl.out
        rw [World.size_alloc] at this
        exact this.drewN 1
      have hbx : Below w.heap.size w ((w1.alloc (.cells R 2)).alloc (.cells R 2)).drew := ((hb0.alloc (by first | exact Hb1.out.size | omega) _).alloc (by have := Hb1.out.size; simp; omega) _).drew
      have hsz := Hb1.out.size
      generalize ((w1.alloc (.cells R 2)).alloc (.cells R 2)).drew = W2 at *
      have HS1 := Lib.hid S1
      have HS2 := Lib.hid S2
      have Hbx := Lib.hid hbx
      have Hsz := Lib.hid hsz
      clear S1 S2 hbx hb0 hmk hsz Hb1 HT H0
      go_wp2
      generalize Value.slice (some ⟨w1.heap.size, 0, none⟩) n n = x at *
      generalize Value.slice (some ⟨w1.heap.size + 1, 0, none⟩) n n = y at *
      go_loopw [30] (fun i wr => ∃ k : Nat, k ≤ N ∧ i = .int .i64 (k : Int) ∧ Hid (∃ a0 b0 a1 b1, Sw (Value.int .i64) 0 wr x (lrn fs n k).1 a0 b0 ∧ Sw (Value.int .i64) 0 wr y (lrn fs n k).2 a1 b1 ∧ w.heap.size ≤ a0 ∧ w.heap.size ≤ a1 ∧ (b0 ≤ a1 ∨ b1 ≤ a0)) ∧ Hid (Below w.heap.size w wr)) (fun i _ => N - (intOf i).toNat)
      case atStart =>
        refine ⟨0, Nat.zero_le _, rfl, Lib.hid ?_, Hbx⟩
        have := Hsz.out
        rw [H00.out]
        exact ⟨_, _, _, _, HS1.out, HS2.out, by omega, by omega, .inl (Nat.le_refl _)⟩
      case round =>
        obtain ⟨k, hk, rfl, hS, hW⟩ := hrel
        clear HS1 HS2 Hbx Hsz H00
        by_cases hlt : k < N
        · obtain ⟨a0, b0, a1, b1, s0, s1, g0, g1, gd⟩ := hS.out
          obtain ⟨l0, l1⟩ := Hlen.out k
          have hbk := Hbd.out k
          have HB1 := Lib.hid (fun z (hz : Below wr.heap.size wr z) => HB.out (lrn fs n k).2 _ z l1 (fun j => by have := (hbk j).2; omega) (hW.out.trans (hz.mono hW.out.size)) (s1.sl.later hz))
          have HB2 := Lib.hid (fun z (hz : Below wr.heap.size wr z) => HB.out (lrn fs n k).1 _ z l0 (fun j => by have := (hbk j).1; omega) (hW.out.trans (hz.mono hW.out.size)) (s0.sl.later hz))
          have hr0 := Hrep.out (lrn fs n k).2
          have hr1 := Hrep.out (lrn fs n k).1
          have hsu := Hsucc.out k
          have Hsu := Lib.hid hsu
          have HL := Lib.hid (And.intro l0 l1)
          have Hbk := Lib.hid hbk
          have HS0 := Lib.hid s0
          have HS1 := Lib.hid s1
          have HG := Lib.hid (And.intro g0 (And.intro g1 gd))
          clear hS hsu l0 l1 hbk s0 s1 g0 g1 gd
          generalize (lrn fs n k).1 = A at *
          generalize (lrn fs n k).2 = Bs at *
          generalize repL fs n Bs = X at *
          generalize repL fs n A = Y at *
          go_wp2_with fail
          refine (HB1.out _ (Below.refl _ _)).mono ?_
          rintro e w3 ⟨rfl, hb3⟩
          have Hb3 := Lib.hid hb3
          clear hb3
          go_wp2_with fail
          refine (HB2.out _ Hb3.out).mono ?_
          rintro e w4 ⟨rfl, hb4⟩
          have Hb4 := Lib.hid (Hb3.out.trans (hb4.mono Hb3.out.size))
          clear hb4 HB1 HB2
          have T0 := Lib.hid (HS0.out.later Hb4.out)
          have T1 := Lib.hid (HS1.out.later Hb4.out)
          have HW4 := Lib.hid (hW.out.trans (Hb4.out.mono hW.out.size))
          have hpn : 0 < n := by omega
          obtain ⟨g0, g1, gd⟩ := HG.out
          obtain ⟨l0, l1⟩ := HL.out
          obtain ⟨p0, c0, e0, z0⟩ := T0.out
          obtain ⟨p1, c1, e1, z1⟩ := T1.out
          rw [l0] at e0 z0
          rw [l1] at e1 z1
          obtain ⟨hc0, B0, o0, rfl, t0, t1, t2, z0'⟩ := z0 hpn
          obtain ⟨hc1, B1, o1, rfl, t3, t4, t5, z1'⟩ := z1 hpn
          subst e0
          subst e1
          have k1 := (z0' X (by omega)).1
          have k2 := (z0' X (by omega)).2
          have hne : B0 ≠ B1 := by omega
          have xA : X < A.length := by omega
          have yB : Y < Bs.length := by omega
          have U0 := T0.out.store X xA (A.getD X 0 + 1)
          have O0 := (Only.refl a0 b0 w4).step' ⟨B0, o0 + X, none⟩ (.int .i64 (A.getD X 0 + 1)) t0 t1
          have U1 := T1.out.apart O0 gd.symm
          have V1 := U1.store Y yB (Bs.getD Y 0 + 1)
          have O1 := (Only.refl a1 b1 (w4.setCell ⟨B0, o0 + X, none⟩ (.int .i64 (A.getD X 0 + 1)))).step' ⟨B1, o1 + Y, none⟩ (.int .i64 (Bs.getD Y 0 + 1)) t3 t4
          have V0 := U0.apart O1 gd
          have HV := Lib.hid (And.intro V0 V1)
          have HBe := Lib.hid (Below.only (Below.only HW4.out O0 g0) O1 g1)
          obtain ⟨_, _, e5, _, _, k3, k4⟩ := U1.open' Y yB
          cases e5
          have bx := (Hbk.out X).1
          have by' := (Hbk.out Y).2
          have HG2 := Lib.hid (And.intro g0 (And.intro g1 gd))
          clear z0 z1 z0' z1' U0 O0 U1 V1 O1 V0 T0 T1 Hbk HS0 HS1 HG HL Hb3 Hb4 hW HW4 g0 g1 gd t2 t5
          generalize hAx : A.getD X 0 = a at *
          generalize hBy : Bs.getD Y 0 = c at *
          have HAx := Lib.hid hAx
          have HBy := Lib.hid hBy
          clear hAx hBy xA yB
          obtain ⟨bx1, bx2⟩ := bx
          obtain ⟨by1, by2⟩ := by'
          have HVV : Hid (Sw (Value.int .i64) 0 ((w4.setCell ⟨B0, o0 + X, none⟩ (.int .i64 (a + 1))).setCell ⟨B1, o1 + Y, none⟩ (.int .i64 (c + 1))) (.slice (some ⟨B0, o0, none⟩) n c0) (lrn fs n (k + 1)).1 a0 b0 ∧ Sw (Value.int .i64) 0 ((w4.setCell ⟨B0, o0 + X, none⟩ (.int .i64 (a + 1))).setCell ⟨B1, o1 + Y, none⟩ (.int .i64 (c + 1))) (.slice (some ⟨B1, o1, none⟩) n c1) (lrn fs n (k + 1)).2 a1 b1) := Lib.hid (by rw [Hsu.out]; unfold bumpI; rw [HAx.out, HBy.out]; exact HV.out)
          go_wp2
          go_roundw
          case rel => exact ⟨k + 1, by omega, by go_num, Lib.hid ⟨a0, b0, a1, b1, HVV.out.1, HVV.out.2, HG2.out⟩, HBe⟩
          case measure => simp [intOf]; omega
        · obtain rfl : k = N := by omega
          have HF := Lib.hid (And.intro hS.out hW.out)
          clear hS hW
          go_wp2
          go_ret3
          exact ⟨_, _, rfl, HF.out.1, HF.out.2⟩
    · have hb0 : Below w.heap.size w w1 := Hb1.out
      have S1 : Sw (Value.int .i64) 0 ((w1.alloc (.cells R 2)).alloc (.cells R 2)).drew (.slice (some ⟨w1.heap.size, 0, none⟩) n n) (List.replicate n 0) w1.heap.size (w1.heap.size + 1) := (sw_zeros w1 R n 2 HRl.out).later (((Below.refl _ _).alloc (Nat.le_refl _) _).drew)
      have S2 : Sw (Value.int .i64) 0 ((w1.alloc (.cells R 2)).alloc (.cells R 2)).drew (.slice (some ⟨w1.heap.size + 1, 0, none⟩) n n) (List.replicate n 0) (w1.heap.size + 1) (w1.heap.size + 1 + 1) := by
        have := sw_zeros (w1.alloc (.cells R 2)) R n 2 HRl.out
        rw [World.size_alloc] at this
        exact this.drewN 1
      have hbx : Below w.heap.size w ((w1.alloc (.cells R 2)).alloc (.cells R 2)).drew := ((hb0.alloc (by first | exact Hb1.out.size | omega) _).alloc (by have := Hb1.out.size; simp; omega) _).drew
      have hsz := Hb1.out.size
      generalize ((w1.alloc (.cells R 2)).alloc (.cells R 2)).drew = W2 at *
      have HS1 := Lib.hid S1
      have HS2 := Lib.hid S2
      have Hbx := Lib.hid hbx
      have Hsz := Lib.hid hsz
      clear S1 S2 hbx hb0 hmk hsz Hb1 HT H0
      go_wp2
      generalize Value.slice (some ⟨w1.heap.size, 0, none⟩) n n = x at *
      generalize Value.slice (some ⟨w1.heap.size + 1, 0, none⟩) n n = y at *
      go_loopw [30] (fun i wr => ∃ k : Nat, k ≤ N ∧ i = .int .i64 (k : Int) ∧ Hid (∃ a0 b0 a1 b1, Sw (Value.int .i64) 0 wr y (lrn fs n k).1 a0 b0 ∧ Sw (Value.int .i64) 0 wr x (lrn fs n k).2 a1 b1 ∧ w.heap.size ≤ a0 ∧ w.heap.size ≤ a1 ∧ (b0 ≤ a1 ∨ b1 ≤ a0)) ∧ Hid (Below w.heap.size w wr)) (fun i _ => N - (intOf i).toNat)
      case atStart =>
        refine ⟨0, Nat.zero_le _, rfl, Lib.hid ?_, Hbx⟩
        have := Hsz.out
        rw [H00.out]
        exact ⟨_, _, _, _, HS2.out, HS1.out, by omega, by omega, .inr (Nat.le_refl _)⟩
      case round =>
        obtain ⟨k, hk, rfl, hS, hW⟩ := hrel
        clear HS1 HS2 Hbx Hsz H00
        by_cases hlt : k < N
        · obtain ⟨a0, b0, a1, b1, s0, s1, g0, g1, gd⟩ := hS.out
          obtain ⟨l0, l1⟩ := Hlen.out k
          have hbk := Hbd.out k
          have HB1 := Lib.hid (fun z (hz : Below wr.heap.size wr z) => HB.out (lrn fs n k).2 _ z l1 (fun j => by have := (hbk j).2; omega) (hW.out.trans (hz.mono hW.out.size)) (s1.sl.later hz))
          have HB2 := Lib.hid (fun z (hz : Below wr.heap.size wr z) => HB.out (lrn fs n k).1 _ z l0 (fun j => by have := (hbk j).1; omega) (hW.out.trans (hz.mono hW.out.size)) (s0.sl.later hz))
          have hr0 := Hrep.out (lrn fs n k).2
          have hr1 := Hrep.out (lrn fs n k).1
          have hsu := Hsucc.out k
          have Hsu := Lib.hid hsu
          have HL := Lib.hid (And.intro l0 l1)
          have Hbk := Lib.hid hbk
          have HS0 := Lib.hid s0
          have HS1 := Lib.hid s1
          have HG := Lib.hid (And.intro g0 (And.intro g1 gd))
          clear hS hsu l0 l1 hbk s0 s1 g0 g1 gd
          generalize (lrn fs n k).1 = A at *
          generalize (lrn fs n k).2 = Bs at *
          generalize repL fs n Bs = X at *
          generalize repL fs n A = Y at *
          go_wp2_with fail
          refine (HB1.out _ (Below.refl _ _)).mono ?_
          rintro e w3 ⟨rfl, hb3⟩
          have Hb3 := Lib.hid hb3
          clear hb3
          go_wp2_with fail
          refine (HB2.out _ Hb3.out).mono ?_
          rintro e w4 ⟨rfl, hb4⟩
          have Hb4 := Lib.hid (Hb3.out.trans (hb4.mono Hb3.out.size))
          clear hb4 HB1 HB2
          have T0 := Lib.hid (HS0.out.later Hb4.out)
          have T1 := Lib.hid (HS1.out.later Hb4.out)
          have HW4 := Lib.hid (hW.out.trans (Hb4.out.mono hW.out.size))
          have hpn : 0 < n := by omega
          obtain ⟨g0, g1, gd⟩ := HG.out
          obtain ⟨l0, l1⟩ := HL.out
          obtain ⟨p0, c0, e0, z0⟩ := T0.out
          obtain ⟨p1, c1, e1, z1⟩ := T1.out
          rw [l0] at e0 z0
          rw [l1] at e1 z1
          obtain ⟨hc0, B0, o0, rfl, t0, t1, t2, z0'⟩ := z0 hpn
          obtain ⟨hc1, B1, o1, rfl, t3, t4, t5, z1'⟩ := z1 hpn
          subst e0
          subst e1
          have k1 := (z0' X (by omega)).1
          have k2 := (z0' X (by omega)).2
          have hne : B0 ≠ B1 := by omega
          have xA : X < A.length := by omega
          have yB : Y < Bs.length := by omega
          have U0 := T0.out.store X xA (A.getD X 0 + 1)
          have O0 := (Only.refl a0 b0 w4).step' ⟨B0, o0 + X, none⟩ (.int .i64 (A.getD X 0 + 1)) t0 t1
          have U1 := T1.out.apart O0 gd.symm
          have V1 := U1.store Y yB (Bs.getD Y 0 + 1)
          have O1 := (Only.refl a1 b1 (w4.setCell ⟨B0, o0 + X, none⟩ (.int .i64 (A.getD X 0 + 1)))).step' ⟨B1, o1 + Y, none⟩ (.int .i64 (Bs.getD Y 0 + 1)) t3 t4
          have V0 := U0.apart O1 gd
          have HV := Lib.hid (And.intro V0 V1)
          have HBe := Lib.hid (Below.only (Below.only HW4.out O0 g0) O1 g1)
          obtain ⟨_, _, e5, _, _, k3, k4⟩ := U1.open' Y yB
          cases e5
          have bx := (Hbk.out X).1
          have by' := (Hbk.out Y).2
          have HG2 := Lib.hid (And.intro g0 (And.intro g1 gd))
          clear z0 z1 z0' z1' U0 O0 U1 V1 O1 V0 T0 T1 Hbk HS0 HS1 HG HL Hb3 Hb4 hW HW4 g0 g1 gd t2 t5
          generalize hAx : A.getD X 0 = a at *
          generalize hBy : Bs.getD Y 0 = c at *
          have HAx := Lib.hid hAx
          have HBy := Lib.hid hBy
          clear hAx hBy xA yB
          obtain ⟨bx1, bx2⟩ := bx
          obtain ⟨by1, by2⟩ := by'
          have HVV : Hid (Sw (Value.int .i64) 0 ((w4.setCell ⟨B0, o0 + X, none⟩ (.int .i64 (a + 1))).setCell ⟨B1, o1 + Y, none⟩ (.int .i64 (c + 1))) (.slice (some ⟨B0, o0, none⟩) n c0) (lrn fs n (k + 1)).1 a0 b0 ∧ Sw (Value.int .i64) 0 ((w4.setCell ⟨B0, o0 + X, none⟩ (.int .i64 (a + 1))).setCell ⟨B1, o1 + Y, none⟩ (.int .i64 (c + 1))) (.slice (some ⟨B1, o1, none⟩) n c1) (lrn fs n (k + 1)).2 a1 b1) := Lib.hid (by rw [Hsu.out]; unfold bumpI; rw [HAx.out, HBy.out]; exact HV.out)
          go_wp2
          go_roundw
          case rel => exact ⟨k + 1, by omega, by go_num, Lib.hid ⟨a0, b0, a1, b1, HVV.out.1, HVV.out.2, HG2.out⟩, HBe⟩
          case measure => simp [intOf]; omega
        · obtain rfl : k = N := by omega
          have HF := Lib.hid (And.intro hS.out hW.out)
          clear hS hW
          go_wp2
          go_ret3
          exact ⟨_, _, rfl, HF.out.1, HF.out.2⟩
  · rw [Bool.not_eq_true] at hok
    have HR1 := Lib.hid (show res_LearnThrows fs r = [] from if_neg (by rw [hok]; exact Bool.false_ne_true))
    have HR2 := Lib.hid (show res2_LearnThrows fs r = [] from if_neg (by rw [hok]; exact Bool.false_ne_true))
    rw [hok, HR1.out, HR2.out]
    rw [HO.out] at hok
    clear HO HR1 HR2 HS
    cases ht : thrB fs
    · rw [ht] at HT
      clear ht hok
      generalize fs.length = L at *
      go_enter Try.func17, Try.ntmps17
      go_wp2_with (first | (go_at_call 70; refine (HT.out).mono ?_; rintro e w1 ⟨rfl, hb1⟩; have Hb1 := Lib.hid hb1; clear hb1))
      go_ret3
      exact ⟨_, _, rfl, TwoR.nil _ _, Hb1.out⟩
    · rw [ht] at HT hok
      have H0 := Lib.hid (fun z => within_no r 1 200 z (by
        rcases Int.lt_or_le r 1 with h1 | h1
        · exact .inl h1
        · right
          rcases Int.lt_or_le 200 r with h2 | h2
          · exact h2
          · rw [decide_eq_true h1, decide_eq_true h2] at hok; cases hok))
      clear ht hok
      generalize fs.length = L at *
      go_enter Try.func17, Try.ntmps17
      go_wp2_with (first | (go_at_call 70; refine (HT.out).mono ?_; rintro e w1 ⟨rfl, hb1⟩; have Hb1 := Lib.hid hb1; clear hb1) | (go_at_call 71; refine (H0.out _).mono ?_; rintro e w' ⟨rfl, rfl⟩))
      go_ret3
      exact ⟨_, _, rfl, TwoR.nil _ _, Hb1.out⟩
end Go.Proofs.Ytodmaomngpnboaa
