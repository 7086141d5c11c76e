/- Contracts: WordWait, WordRace, in both texts. -/
import Derived.Test.YtpidkedcnhohdabWe
set_option linter.unusedVariables false
namespace Go.Proofs.Ytpidkedcnhohdab
open Go.RowKit

theorem worth_next (s : Int) (x : Int) (hx : 1 ≤ x) : pwI s x.toNat = s * pwI s (x - 1).toNat := by
  obtain ⟨k, hk⟩ : ∃ k : Nat, x = (k : Int) + 1 := ⟨(x - 1).toNat, by omega⟩
  subst hk
  rw [show ((k : Int) + 1).toNat = k + 1 by omega, show ((k : Int) + 1 - 1).toNat = k by omega, Int.mul_comm]
  rfl
set_option maxRecDepth 100000 in
set_option maxHeartbeats 1000000 in
theorem wait_spec (fs : List Int) (v : Value) (s : Int) (w : World) (hn : fs.length ≤ 12) (s0 : 2 ≤ s) (s1 : s ≤ 6) (h : Sl (Value.int .i64) 0 w v fs) :
    Calls Try.prog 48 #[v, .int .i64 s] w fun e w' => e = .returned (.int .i64 (s * leadI fs fs s fs.length)) ∧ Below w.heap.size w w' := by
  have HO := Lib.hid (borders_spec fs v w (by omega) h)
  unfold leadI
  have hbd := leadI_bd fs fs s s0 s1 fs.length (by omega)
  unfold leadI at hbd
  have hat := fun i hi => overL_at fs fs fs.length i hi
  have hl := overL_len fs fs fs.length
  obtain ⟨p, cap, rfl, hf⟩ := h
  clear hf
  generalize overL fs fs fs.length = L at *
  have Hat : Hid (∀ i, i < L.length → 1 ≤ L.getD i 0 ∧ L.getD i 0 ≤ 12) := Lib.hid (fun i hi => by have := hat i hi; omega)
  have Htk := Lib.hid (fun i => worthL_take_le s (by omega) L i)
  have Hst := Lib.hid (fun i hi => worthL_take s L i hi)
  have HP := Lib.hid (fun (k : Nat) (hk : k < 13) z => powerS_any s k z (by omega) (fun j hj => by have := pwI_bd6 s s0 s1 j (by omega); omega))
  have Hpb := Lib.hid (fun k (hk : k < 13) => pwI_bd6 s s0 s1 k (by omega))
  have Hnx := Lib.hid (fun x hx => worth_next s x hx)
  obtain ⟨hbd0, hbd1⟩ := hbd
  have Hbd := Lib.hid hbd1
  clear hat hbd0 hbd1
  generalize fs.length = n at *
  go_enter Try.func48, Try.ntmps48
  go_wp2_with fail
  refine HO.out.mono ?_
  rintro e w1 ⟨r, rfl, hs, hb⟩
  have Hb1 := Lib.hid hb
  have hs := hs.sl
  obtain ⟨p', c', rfl, hc⟩ := hs
  have Hc := Lib.hid hc
  clear hb hc
  have hl2 : L.length ≤ 12 := by omega
  obtain ⟨N, hN⟩ : ∃ N, N = L.length := ⟨_, rfl⟩
  have HN := Lib.hid hN
  rw [← hN] at Hat Hst Hc hl2 ⊢
  clear hN hl
  go_wp2
  go_loopw [6, 7] (fun x i wr => ∃ k : Nat, k ≤ N ∧ i = .int .i64 (k : Int) ∧ x = .int .i64 (s * worthL s (L.take k)) ∧ wr = w1) (fun _ i _ => N - (intOf i).toNat)
  case atStart => exact ⟨0, Nat.zero_le _, rfl, by rw [show worthL s (L.take 0) = 0 from rfl, Int.mul_zero], rfl⟩
  case round =>
    obtain ⟨k, hk, rfl, rfl, rfl⟩ := hrel
    by_cases hlt : k < N
    · obtain ⟨hcap, b, off, rfl, hbs, hc⟩ := Hc.out (by omega)
      have c1 := hc k hlt
      have ha := Hat.out k hlt
      have HS := Lib.hid (Hst.out k hlt)
      have ht := Htk.out k
      have ht2 := Htk.out (k + 1)
      rw [HS.out] at ht2
      have HPk := HP.out (L.getD k 0).toNat (by omega)
      have hpw := Hnx.out (L.getD k 0) ha.1
      rw [Int.toNat_of_nonneg (by omega), hpw] at HPk
      have HPk := Lib.hid HPk
      have hpb := Hpb.out (L.getD k 0).toNat (by omega)
      rw [hpw] at hpb
      have hB := Hbd.out
      have m0 : 0 ≤ s * worthL s (L.take k) := Int.mul_nonneg (by omega) ht.1
      have m1 : s * worthL s (L.take k) ≤ 6 * 13060694016 := Int.mul_le_mul s1 (by omega) ht.1 (by omega)
      obtain ⟨t0, t1⟩ := ht
      obtain ⟨t2, t3⟩ := ht2
      obtain ⟨a0, a1⟩ := ha
      obtain ⟨p0, p1⟩ := hpb
      have HX := Lib.hid (show s * worthL s (L.take (k + 1)) = s * worthL s (L.take k) + s * pwI s (L.getD k 0 - 1).toNat by rw [HS.out, Int.mul_add])
      clear hc hpw
      generalize s * worthL s (L.take k) = X at *
      generalize s * pwI s (L.getD k 0 - 1).toNat = Y at *
      generalize L.getD k 0 = x at *
      go_wp2_with fail
      refine (HPk.out _).mono ?_
      rintro e w2 ⟨rfl, rfl⟩
      go_wp2
      go_roundw
      case rel => exact ⟨k + 1, by omega, by go_num, by rw [HX.out], by trivial⟩
      case measure => simp [intOf]; omega
    · obtain rfl : k = N := by omega
      go_wp2
      go_ret
      exact ⟨ret_int (by rw [HN.out, List.take_length]), Hb1.out⟩
def ok_WordWait (fs : List Int) (s : Int) : Bool := wordB fs s
def res_WordWait (fs : List Int) (s : Int) : Int := if wordB fs s = true then s * leadI fs fs s fs.length else 0
set_option maxHeartbeats 1000000 in
theorem impl_WordWait (fs : List Int) (v : Value) (s : Int) (sl : -9223372036854775808 ≤ s) (su : s ≤ 9223372036854775807) (w : World) (hn : fs.length ≤ 1048576) (h : Sl (Value.int .i64) 0 w v fs) :
    Calls Try.prog 24 #[v, .int .i64 s] w fun e w' => e = .returned (.tuple #[.int .i64 (res_WordWait fs s), .bool (ok_WordWait fs s)]) ∧ Below w.heap.size w w' := by
  have H0 := wordI_any fs v s w hn h
  unfold ok_WordWait res_WordWait
  cases hw : wordB fs s
  · rw [if_neg Bool.false_ne_true]
    rw [hw] at H0
    have H0 := Lib.hid H0
    clear hw
    obtain ⟨p, cap, rfl, hf⟩ := h
    clear hf
    generalize fs.length = n at *
    go_enter Try.func24, Try.ntmps24
    go_wp2_with fail
    refine H0.out.mono ?_
    rintro e w' ⟨rfl, nq, rfl⟩
    go_wp2
    go_ret2
    exact ⟨rfl, below_drewN (Below.refl _ _) _⟩
  · rw [if_pos rfl]
    rw [hw] at H0
    have H0 := Lib.hid H0
    obtain ⟨⟨b0, b1⟩, s0, s1⟩ := wordB_bd hw
    clear hw
    have HO := Lib.hid (fun q => lead_impl fs fs v v s (w.drewN q) b1 b1 s0 s1 (h.drewN q) (h.drewN q))
    have hbd := leadI_bd fs fs s s0 s1 fs.length (by omega)
    have m0 : 0 ≤ s * leadI fs fs s fs.length := Int.mul_nonneg (by omega) hbd.1
    have m1 : s * leadI fs fs s fs.length ≤ 6 * 13060694016 := Int.mul_le_mul s1 hbd.2 hbd.1 (by omega)
    obtain ⟨l0, l1⟩ := hbd
    obtain ⟨p, cap, rfl, hf⟩ := h
    clear hf sl su
    generalize leadI fs fs s fs.length = X at *
    generalize fs.length = n at *
    go_enter Try.func24, Try.ntmps24
    go_wp2_with fail
    refine H0.out.mono ?_
    rintro e w' ⟨rfl, nq, rfl⟩
    go_wp2_with fail
    refine (HO.out _).mono ?_
    rintro e w2 ⟨rfl, hb2⟩
    have Hb2 := Lib.hid hb2
    clear hb2
    go_wp2
    go_ret2
    exact ⟨rfl, (below_drewN (Below.refl _ w) nq).trans (Hb2.out.mono (by simp))⟩
set_option maxHeartbeats 1000000 in
theorem spec_WordWait (fs : List Int) (v : Value) (s : Int) (sl : -9223372036854775808 ≤ s) (su : s ≤ 9223372036854775807) (w : World) (hn : fs.length ≤ 1048576) (h : Sl (Value.int .i64) 0 w v fs) :
    Calls Try.prog 23 #[v, .int .i64 s] w fun e w' => e = .returned (.tuple #[.int .i64 (res_WordWait fs s), .bool (ok_WordWait fs s)]) ∧ Below w.heap.size w w' := by
  have H0 := wordS_any fs v s w hn h
  unfold ok_WordWait res_WordWait
  cases hw : wordB fs s
  · rw [if_neg Bool.false_ne_true]
    rw [hw] at H0
    have H0 := Lib.hid H0
    clear hw
    obtain ⟨p, cap, rfl, hf⟩ := h
    clear hf
    generalize fs.length = n at *
    go_enter Try.func23, Try.ntmps23
    go_wp2_with fail
    refine H0.out.mono ?_
    rintro e w' ⟨rfl, nq, rfl⟩
    go_wp2
    go_ret2
    exact ⟨rfl, below_drewN (Below.refl _ _) _⟩
  · rw [if_pos rfl]
    rw [hw] at H0
    have H0 := Lib.hid H0
    obtain ⟨⟨b0, b1⟩, s0, s1⟩ := wordB_bd hw
    clear hw
    have HO := Lib.hid (fun q => wait_spec fs v s (w.drewN q) b1 s0 s1 (h.drewN q))
    have hbd := leadI_bd fs fs s s0 s1 fs.length (by omega)
    have m0 : 0 ≤ s * leadI fs fs s fs.length := Int.mul_nonneg (by omega) hbd.1
    have m1 : s * leadI fs fs s fs.length ≤ 6 * 13060694016 := Int.mul_le_mul s1 hbd.2 hbd.1 (by omega)
    obtain ⟨l0, l1⟩ := hbd
    obtain ⟨p, cap, rfl, hf⟩ := h
    clear hf sl su
    generalize leadI fs fs s fs.length = X at *
    generalize fs.length = n at *
    go_enter Try.func23, Try.ntmps23
    go_wp2_with fail
    refine H0.out.mono ?_
    rintro e w' ⟨rfl, nq, rfl⟩
    go_wp2_with fail
    refine (HO.out _).mono ?_
    rintro e w2 ⟨rfl, hb2⟩
    have Hb2 := Lib.hid hb2
    clear hb2
    go_wp2
    go_ret2
    exact ⟨rfl, (below_drewN (Below.refl _ w) nq).trans (Hb2.out.mono (by simp))⟩
def raceB (fs gs : List Int) (s : Int) : Bool := wordB fs s && wordB gs s && !inB fs gs && !inB gs fs
def befI (fs gs : List Int) (s : Int) : Int := leadI gs gs s gs.length - leadI gs fs s gs.length
def ok_WordRace (fs gs : List Int) (s : Int) : Bool := raceB fs gs s
def res_WordRace (fs gs : List Int) (s : Int) : Int := if raceB fs gs s = true then befI fs gs s / gcdI (befI fs gs s) (befI fs gs s + befI gs fs s) else 0
def res2_WordRace (fs gs : List Int) (s : Int) : Int := if raceB fs gs s = true then (befI fs gs s + befI gs fs s) / gcdI (befI fs gs s) (befI fs gs s + befI gs fs s) else 0
theorem bef_bd {fs gs : List Int} {s : Int} (hf : wordB fs s = true) (hg : wordB gs s = true) (hi : inB fs gs = false) (hj : inB gs fs = false) : 1 ≤ befI fs gs s ∧ befI fs gs s ≤ 13060694016 := by
  obtain ⟨⟨a0, a1⟩, s0, s1⟩ := wordB_bd hf
  obtain ⟨⟨b0, b1⟩, -, -⟩ := wordB_bd hg
  have h1 := lead_less gs fs s s0 b0 a0 hj hi
  have h2 := leadI_bd gs fs s s0 s1 gs.length (by omega)
  have h3 := leadI_bd gs gs s s0 s1 gs.length (by omega)
  unfold befI
  omega
theorem race_no {fs gs : List Int} {s : Int} (h : raceB fs gs s = false) : ok_WordRace fs gs s = false ∧ res_WordRace fs gs s = 0 ∧ res2_WordRace fs gs s = 0 := by
  unfold ok_WordRace res_WordRace res2_WordRace; rw [h]; exact ⟨rfl, rfl, rfl⟩
theorem race_yes {fs gs : List Int} {s : Int} (h : raceB fs gs s = true) : ok_WordRace fs gs s = true ∧ res_WordRace fs gs s = befI fs gs s / gcdI (befI fs gs s) (befI fs gs s + befI gs fs s) ∧ res2_WordRace fs gs s = (befI fs gs s + befI gs fs s) / gcdI (befI fs gs s) (befI fs gs s + befI gs fs s) := by
  unfold ok_WordRace res_WordRace res2_WordRace; rw [h]; exact ⟨rfl, rfl, rfl⟩
set_option maxRecDepth 100000 in
set_option maxHeartbeats 4000000 in
theorem impl_WordRace (fs : List Int) (v : Value) (gs : List Int) (u : Value) (s : Int) (sl : -9223372036854775808 ≤ s) (su : s ≤ 9223372036854775807) (w : World) (hn : fs.length ≤ 1048576) (h : Sl (Value.int .i64) 0 w v fs) (hm : gs.length ≤ 1048576) (g : Sl (Value.int .i64) 0 w u gs) :
    Calls Try.prog 26 #[v, u, .int .i64 s] w fun e w' => e = .returned (.tuple #[.int .i64 (res_WordRace fs gs s), .int .i64 (res2_WordRace fs gs s), .bool (ok_WordRace fs gs s)]) ∧ Below w.heap.size w w' := by
  have HA := fun (q : Nat) => wordI_any fs v s w hn h
  cases k0 : wordB fs s
  · rw [k0] at HA
    have HA := Lib.hid HA
    obtain ⟨e1, e2, e3⟩ := race_no (fs := fs) (gs := gs) (s := s) (by unfold raceB; simp [k0])
    rw [e1, e2, e3]
    clear e1 e2 e3 k0
    obtain ⟨p, cap, rfl, hf⟩ := h
    obtain ⟨q, cap', rfl, hg⟩ := g
    clear hf hg
    generalize fs.length = n at *
    generalize gs.length = m at *
    go_enter Try.func26, Try.ntmps26
    go_wp2_with fail
    refine (HA.out 0).mono ?_
    rintro e w' ⟨rfl, nq0, rfl⟩
    go_wp2
    go_ret3
    exact ⟨rfl, below_drewN (Below.refl w.heap.size w) _⟩
  · rw [k0] at HA
    have HA := Lib.hid HA
    have HB := fun (q : Nat) => wordI_any gs u s (w.drewN q) hm (g.drewN q)
    cases k1 : wordB gs s
    · rw [k1] at HB
      have HB := Lib.hid HB
      obtain ⟨e1, e2, e3⟩ := race_no (fs := fs) (gs := gs) (s := s) (by unfold raceB; simp [k0, k1])
      rw [e1, e2, e3]
      clear e1 e2 e3 k0 k1
      obtain ⟨p, cap, rfl, hf⟩ := h
      obtain ⟨q, cap', rfl, hg⟩ := g
      clear hf hg
      generalize fs.length = n at *
      generalize gs.length = m at *
      go_enter Try.func26, Try.ntmps26
      go_wp2_with fail
      refine (HA.out 0).mono ?_
      rintro e w' ⟨rfl, nq0, rfl⟩
      go_wp2_with fail
      refine (HB.out _).mono ?_
      rintro e w' ⟨rfl, nq1, rfl⟩
      go_wp2
      go_ret3
      exact ⟨rfl, below_drewN (Below.refl w.heap.size w) _⟩
    · rw [k1] at HB
      have HB := Lib.hid HB
      obtain ⟨⟨a0, a1⟩, s0, s1⟩ := wordB_bd k0
      obtain ⟨⟨b0, b1⟩, -, -⟩ := wordB_bd k1
      have HC := fun (q : Nat) => inI_any fs gs v u (w.drewN q) a0 b0 a1 b1 (h.drewN q) (g.drewN q)
      cases k2 : inB fs gs
      rotate_left
      · rw [k2] at HC
        have HC := Lib.hid HC
        obtain ⟨e1, e2, e3⟩ := race_no (fs := fs) (gs := gs) (s := s) (by unfold raceB; simp [k0, k1, k2])
        rw [e1, e2, e3]
        clear e1 e2 e3 k0 k1 k2
        obtain ⟨p, cap, rfl, hf⟩ := h
        obtain ⟨q, cap', rfl, hg⟩ := g
        clear hf hg
        generalize fs.length = n at *
        generalize gs.length = m at *
        go_enter Try.func26, Try.ntmps26
        go_wp2_with fail
        refine (HA.out 0).mono ?_
        rintro e w' ⟨rfl, nq0, rfl⟩
        go_wp2_with fail
        refine (HB.out _).mono ?_
        rintro e w' ⟨rfl, nq1, rfl⟩
        go_wp2_with fail
        refine (HC.out _).mono ?_
        rintro e w' ⟨rfl, nq2, rfl⟩
        go_wp2
        go_ret3
        exact ⟨rfl, below_drewN (Below.refl w.heap.size w) _⟩
      · rw [k2] at HC
        have HC := Lib.hid HC
        have HD := fun (q : Nat) => inI_any gs fs u v (w.drewN q) b0 a0 b1 a1 (g.drewN q) (h.drewN q)
        cases k3 : inB gs fs
        rotate_left
        · rw [k3] at HD
          have HD := Lib.hid HD
          obtain ⟨e1, e2, e3⟩ := race_no (fs := fs) (gs := gs) (s := s) (by unfold raceB; simp [k0, k1, k2, k3])
          rw [e1, e2, e3]
          clear e1 e2 e3 k0 k1 k2 k3
          obtain ⟨p, cap, rfl, hf⟩ := h
          obtain ⟨q, cap', rfl, hg⟩ := g
          clear hf hg
          generalize fs.length = n at *
          generalize gs.length = m at *
          go_enter Try.func26, Try.ntmps26
          go_wp2_with fail
          refine (HA.out 0).mono ?_
          rintro e w' ⟨rfl, nq0, rfl⟩
          go_wp2_with fail
          refine (HB.out _).mono ?_
          rintro e w' ⟨rfl, nq1, rfl⟩
          go_wp2_with fail
          refine (HC.out _).mono ?_
          rintro e w' ⟨rfl, nq2, rfl⟩
          go_wp2_with fail
          refine (HD.out _).mono ?_
          rintro e w' ⟨rfl, nq3, rfl⟩
          go_wp2
          go_ret3
          exact ⟨rfl, below_drewN (Below.refl w.heap.size w) _⟩
        · rw [k3] at HD
          have HD := Lib.hid HD
          obtain ⟨e1, e2, e3⟩ := race_yes (fs := fs) (gs := gs) (s := s) (by unfold raceB; simp [k0, k1, k2, k3])
          rw [e1, e2, e3]
          obtain ⟨x0, x1⟩ := bef_bd k0 k1 k2 k3
          obtain ⟨y0, y1⟩ := bef_bd k1 k0 k3 k2
          have l1 := leadI_bd gs gs s s0 s1 gs.length (by omega)
          have l2 := leadI_bd gs fs s s0 s1 gs.length (by omega)
          have l3 := leadI_bd fs fs s s0 s1 fs.length (by omega)
          have l4 := leadI_bd fs gs s s0 s1 fs.length (by omega)
          have HF := Lib.hid (fun z => fracQ_any (befI fs gs s) (befI fs gs s + befI gs fs s) z (by omega) (by omega) (by omega) (by omega))
          have L1 := Lib.hid (fun z (hz : Below w.heap.size w z) => lead_impl gs gs u u s z b1 b1 s0 s1 (g.later hz) (g.later hz))
          have L2 := Lib.hid (fun z (hz : Below w.heap.size w z) => lead_impl gs fs u v s z b1 a1 s0 s1 (g.later hz) (h.later hz))
          have L3 := Lib.hid (fun z (hz : Below w.heap.size w z) => lead_impl fs fs v v s z a1 a1 s0 s1 (h.later hz) (h.later hz))
          have L4 := Lib.hid (fun z (hz : Below w.heap.size w z) => lead_impl fs gs v u s z a1 b1 s0 s1 (h.later hz) (g.later hz))
          have hx : befI fs gs s = leadI gs gs s gs.length - leadI gs fs s gs.length := rfl
          have hy : befI gs fs s = leadI fs fs s fs.length - leadI fs gs s fs.length := rfl
          rw [hx, hy] at HF ⊢
          rw [hx] at x0 x1
          rw [hy] at y0 y1
          obtain ⟨l1a, l1b⟩ := l1
          obtain ⟨l2a, l2b⟩ := l2
          obtain ⟨l3a, l3b⟩ := l3
          obtain ⟨l4a, l4b⟩ := l4
          clear e1 e2 e3 k0 k1 k2 k3 hx hy
          obtain ⟨p, cap, rfl, hf⟩ := h
          obtain ⟨q, cap', rfl, hg⟩ := g
          clear hf hg
          generalize leadI gs gs s gs.length = A1 at *
          generalize leadI gs fs s gs.length = A2 at *
          generalize leadI fs fs s fs.length = A3 at *
          generalize leadI fs gs s fs.length = A4 at *
          generalize fs.length = n at *
          generalize gs.length = m at *
          go_enter Try.func26, Try.ntmps26
          go_wp2_with fail
          refine (HA.out 0).mono ?_
          rintro e w' ⟨rfl, nq0, rfl⟩
          go_wp2_with fail
          refine (HB.out _).mono ?_
          rintro e w' ⟨rfl, nq1, rfl⟩
          go_wp2_with fail
          refine (HC.out _).mono ?_
          rintro e w' ⟨rfl, nq2, rfl⟩
          go_wp2_with fail
          refine (HD.out _).mono ?_
          rintro e w' ⟨rfl, nq3, rfl⟩
          go_wp2_with fail
          refine (L1.out _ (below_drewN (Below.refl w.heap.size w) _)).mono ?_
          rintro e z1 ⟨rfl, hb⟩
          have B1 : Hid (Below w.heap.size w z1) := Lib.hid ((below_drewN (Below.refl w.heap.size w) _).trans (hb.mono (by simp)))
          clear hb
          go_wp2_with fail
          refine (L2.out _ B1.out).mono ?_
          rintro e z2 ⟨rfl, hb⟩
          have B2 : Hid (Below w.heap.size w z2) := Lib.hid (B1.out.trans (hb.mono B1.out.size))
          clear hb
          go_wp2_with fail
          refine (L3.out _ B2.out).mono ?_
          rintro e z3 ⟨rfl, hb⟩
          have B3 : Hid (Below w.heap.size w z3) := Lib.hid (B2.out.trans (hb.mono B2.out.size))
          clear hb
          go_wp2_with fail
          refine (L4.out _ B3.out).mono ?_
          rintro e z4 ⟨rfl, hb⟩
          have B4 : Hid (Below w.heap.size w z4) := Lib.hid (B3.out.trans (hb.mono B3.out.size))
          clear hb
          go_wp2_with fail
          refine (HF.out _).mono ?_
          rintro e z5 ⟨rfl, nf, rfl⟩
          go_wp2
          go_ret3
          exact ⟨rfl, below_drewN B4.out _⟩
set_option maxRecDepth 100000 in
set_option maxHeartbeats 4000000 in
theorem spec_WordRace (fs : List Int) (v : Value) (gs : List Int) (u : Value) (s : Int) (sl : -9223372036854775808 ≤ s) (su : s ≤ 9223372036854775807) (w : World) (hn : fs.length ≤ 1048576) (h : Sl (Value.int .i64) 0 w v fs) (hm : gs.length ≤ 1048576) (g : Sl (Value.int .i64) 0 w u gs) :
    Calls Try.prog 25 #[v, u, .int .i64 s] w fun e w' => e = .returned (.tuple #[.int .i64 (res_WordRace fs gs s), .int .i64 (res2_WordRace fs gs s), .bool (ok_WordRace fs gs s)]) ∧ Below w.heap.size w w' := by
  have HA := fun (q : Nat) => wordS_any fs v s w hn h
  cases k0 : wordB fs s
  · rw [k0] at HA
    have HA := Lib.hid HA
    obtain ⟨e1, e2, e3⟩ := race_no (fs := fs) (gs := gs) (s := s) (by unfold raceB; simp [k0])
    rw [e1, e2, e3]
    clear e1 e2 e3 k0
    obtain ⟨p, cap, rfl, hf⟩ := h
    obtain ⟨q, cap', rfl, hg⟩ := g
    clear hf hg
    generalize fs.length = n at *
    generalize gs.length = m at *
    go_enter Try.func25, Try.ntmps25
    go_wp2_with fail
    refine (HA.out 0).mono ?_
    rintro e w' ⟨rfl, nq0, rfl⟩
    go_wp2
    go_ret3
    exact ⟨rfl, below_drewN (Below.refl w.heap.size w) _⟩
  · rw [k0] at HA
    have HA := Lib.hid HA
    have HB := fun (q : Nat) => wordS_any gs u s (w.drewN q) hm (g.drewN q)
    cases k1 : wordB gs s
    · rw [k1] at HB
      have HB := Lib.hid HB
      obtain ⟨e1, e2, e3⟩ := race_no (fs := fs) (gs := gs) (s := s) (by unfold raceB; simp [k0, k1])
      rw [e1, e2, e3]
      clear e1 e2 e3 k0 k1
      obtain ⟨p, cap, rfl, hf⟩ := h
      obtain ⟨q, cap', rfl, hg⟩ := g
      clear hf hg
      generalize fs.length = n at *
      generalize gs.length = m at *
      go_enter Try.func25, Try.ntmps25
      go_wp2_with fail
      refine (HA.out 0).mono ?_
      rintro e w' ⟨rfl, nq0, rfl⟩
      go_wp2_with fail
      refine (HB.out _).mono ?_
      rintro e w' ⟨rfl, nq1, rfl⟩
      go_wp2
      go_ret3
      exact ⟨rfl, below_drewN (Below.refl w.heap.size w) _⟩
    · rw [k1] at HB
      have HB := Lib.hid HB
      obtain ⟨⟨a0, a1⟩, s0, s1⟩ := wordB_bd k0
      obtain ⟨⟨b0, b1⟩, -, -⟩ := wordB_bd k1
      have HC := fun (q : Nat) => inS_any fs gs v u (w.drewN q) a0 b0 a1 b1 (h.drewN q) (g.drewN q)
      cases k2 : inB fs gs
      rotate_left
      · rw [k2] at HC
        have HC := Lib.hid HC
        obtain ⟨e1, e2, e3⟩ := race_no (fs := fs) (gs := gs) (s := s) (by unfold raceB; simp [k0, k1, k2])
        rw [e1, e2, e3]
        clear e1 e2 e3 k0 k1 k2
        obtain ⟨p, cap, rfl, hf⟩ := h
        obtain ⟨q, cap', rfl, hg⟩ := g
        clear hf hg
        generalize fs.length = n at *
        generalize gs.length = m at *
        go_enter Try.func25, Try.ntmps25
        go_wp2_with fail
        refine (HA.out 0).mono ?_
        rintro e w' ⟨rfl, nq0, rfl⟩
        go_wp2_with fail
        refine (HB.out _).mono ?_
        rintro e w' ⟨rfl, nq1, rfl⟩
        go_wp2_with fail
        refine (HC.out _).mono ?_
        rintro e w' ⟨rfl, nq2, rfl⟩
        go_wp2
        go_ret3
        exact ⟨rfl, below_drewN (Below.refl w.heap.size w) _⟩
      · rw [k2] at HC
        have HC := Lib.hid HC
        have HD := fun (q : Nat) => inS_any gs fs u v (w.drewN q) b0 a0 b1 a1 (g.drewN q) (h.drewN q)
        cases k3 : inB gs fs
        rotate_left
        · rw [k3] at HD
          have HD := Lib.hid HD
          obtain ⟨e1, e2, e3⟩ := race_no (fs := fs) (gs := gs) (s := s) (by unfold raceB; simp [k0, k1, k2, k3])
          rw [e1, e2, e3]
          clear e1 e2 e3 k0 k1 k2 k3
          obtain ⟨p, cap, rfl, hf⟩ := h
          obtain ⟨q, cap', rfl, hg⟩ := g
          clear hf hg
          generalize fs.length = n at *
          generalize gs.length = m at *
          go_enter Try.func25, Try.ntmps25
          go_wp2_with fail
          refine (HA.out 0).mono ?_
          rintro e w' ⟨rfl, nq0, rfl⟩
          go_wp2_with fail
          refine (HB.out _).mono ?_
          rintro e w' ⟨rfl, nq1, rfl⟩
          go_wp2_with fail
          refine (HC.out _).mono ?_
          rintro e w' ⟨rfl, nq2, rfl⟩
          go_wp2_with fail
          refine (HD.out _).mono ?_
          rintro e w' ⟨rfl, nq3, rfl⟩
          go_wp2
          go_ret3
          exact ⟨rfl, below_drewN (Below.refl w.heap.size w) _⟩
        · rw [k3] at HD
          have HD := Lib.hid HD
          obtain ⟨e1, e2, e3⟩ := race_yes (fs := fs) (gs := gs) (s := s) (by unfold raceB; simp [k0, k1, k2, k3])
          rw [e1, e2, e3]
          obtain ⟨x0, x1⟩ := bef_bd k0 k1 k2 k3
          obtain ⟨y0, y1⟩ := bef_bd k1 k0 k3 k2
          have l1 := leadI_bd gs gs s s0 s1 gs.length (by omega)
          have l2 := leadI_bd gs fs s s0 s1 gs.length (by omega)
          have l3 := leadI_bd fs fs s s0 s1 fs.length (by omega)
          have l4 := leadI_bd fs gs s s0 s1 fs.length (by omega)
          have HF := Lib.hid (fun z => leastQ_any (befI fs gs s) (befI fs gs s + befI gs fs s) z (by omega) (by omega) (by omega) (by omega))
          have L1 := Lib.hid (fun z => lead_spec gs gs u u s (w.drewN z) b1 b1 s0 s1 (g.drewN z) (g.drewN z))
          have L2 := Lib.hid (fun z => lead_spec gs fs u v s (w.drewN z) b1 a1 s0 s1 (g.drewN z) (h.drewN z))
          have L3 := Lib.hid (fun z => lead_spec fs fs v v s (w.drewN z) a1 a1 s0 s1 (h.drewN z) (h.drewN z))
          have L4 := Lib.hid (fun z => lead_spec fs gs v u s (w.drewN z) a1 b1 s0 s1 (h.drewN z) (g.drewN z))
          have hx : befI fs gs s = leadI gs gs s gs.length - leadI gs fs s gs.length := rfl
          have hy : befI gs fs s = leadI fs fs s fs.length - leadI fs gs s fs.length := rfl
          rw [hx, hy] at HF ⊢
          rw [hx] at x0 x1
          rw [hy] at y0 y1
          obtain ⟨l1a, l1b⟩ := l1
          obtain ⟨l2a, l2b⟩ := l2
          obtain ⟨l3a, l3b⟩ := l3
          obtain ⟨l4a, l4b⟩ := l4
          clear e1 e2 e3 k0 k1 k2 k3 hx hy
          obtain ⟨p, cap, rfl, hf⟩ := h
          obtain ⟨pp, cap', rfl, hg⟩ := g
          clear hf hg
          generalize leadI gs gs s gs.length = A1 at *
          generalize leadI gs fs s gs.length = A2 at *
          generalize leadI fs fs s fs.length = A3 at *
          generalize leadI fs gs s fs.length = A4 at *
          generalize fs.length = n at *
          generalize gs.length = m at *
          have HR : Hid (∀ q, Calls Try.prog 51 #[.slice p n cap, .slice pp m cap', .int .i64 s] (w.drewN q) fun e w' => e = .returned (.tuple #[.int .i64 ((A1 - A2) / gcdI (A1 - A2) (A1 - A2 + (A3 - A4))), .int .i64 ((A1 - A2 + (A3 - A4)) / gcdI (A1 - A2) (A1 - A2 + (A3 - A4)))]) ∧ Drawn (w.drewN q) w') := by
            refine Lib.hid (fun q => ?_)
            clear HA HB HC HD
            go_enter Try.func51, Try.ntmps51
            go_wp2_with fail
            refine (L1.out _).mono ?_
            rintro e w' ⟨rfl, nl1, rfl⟩
            go_wp2_with fail
            refine (L2.out _).mono ?_
            rintro e w' ⟨rfl, nl2, rfl⟩
            go_wp2_with fail
            refine (L3.out _).mono ?_
            rintro e w' ⟨rfl, nl3, rfl⟩
            go_wp2_with fail
            refine (L4.out _).mono ?_
            rintro e w' ⟨rfl, nl4, rfl⟩
            go_wp2_with fail
            refine (HF.out _).mono ?_
            rintro e z5 ⟨rfl, nf, rfl⟩
            go_wp2
            go_ret2
            exact ⟨rfl, nl1 + nl2 + nl3 + nl4 + nf, by simp [World.drewN_drewN, Nat.add_assoc]⟩
          go_enter Try.func25, Try.ntmps25
          go_wp2_with fail
          refine (HA.out 0).mono ?_
          rintro e w' ⟨rfl, nq0, rfl⟩
          go_wp2_with fail
          refine (HB.out _).mono ?_
          rintro e w' ⟨rfl, nq1, rfl⟩
          go_wp2_with fail
          refine (HC.out _).mono ?_
          rintro e w' ⟨rfl, nq2, rfl⟩
          go_wp2_with fail
          refine (HD.out _).mono ?_
          rintro e w' ⟨rfl, nq3, rfl⟩
          go_wp2_with fail
          refine (HR.out _).mono ?_
          rintro e w' ⟨rfl, nr, rfl⟩
          go_wp2
          go_ret3
          exact ⟨rfl, below_drewN (Below.refl w.heap.size w) _⟩
end Go.Proofs.Ytpidkedcnhohdab
