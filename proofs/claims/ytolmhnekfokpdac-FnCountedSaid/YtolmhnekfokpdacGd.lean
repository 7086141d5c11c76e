/- Contracts: a word in a ring, in the program. -/
import Derived.Test.YtolmhnekfokpdacGc
import Derived.Laws.NewBlocks
import Derived.Laws.StructEq
import Derived.KernelRfl
import Derived.Deep.RegionWith
import Derived.Deep.RegionHeld3
import Derived.Deep.RegionLaw
import Derived.Deep.AppendLies
import Derived.WalkSpells
import Derived.StillTactics
import Derived.RegionTactic
set_option linter.unusedVariables false
namespace Go.Proofs.Ytolmhnekfokpdac
open Go.RowKit

@[go_sem] theorem eq_six (x0 x1 x2 x3 x4 x5 y0 y1 y2 y3 y4 y5 : Int) (w : World) : (Op.equalIn 10000 109 (.agg #[.int .i64 x0, .int .i64 x1, .int .i64 x2, .int .i64 x3, .int .i64 x4, .int .i64 x5]) (.agg #[.int .i64 y0, .int .i64 y1, .int .i64 y2, .int .i64 y3, .int .i64 y4, .int .i64 y5])).run Try.prog w = .ok (decide (x0 = y0 ∧ x1 = y1 ∧ x2 = y2 ∧ x3 = y3 ∧ x4 = y4 ∧ x5 = y5)) w := by
  have u3 := Try.underlying2
  have a3 := Try.isAgg2
  have z3 := Try.sizeOf2
  rw [show (10000 : Nat) = 9999 + 1 from rfl, Op.equalIn]
  simp only [Sem.run_bind, run_underlying Try.underlying109, Result.andThen_ok]
  simp only [Std.Legacy.Range.forIn_eq_forIn_range', Std.Legacy.Range.size, Nat.sub_zero, Nat.add_sub_cancel, Nat.div_one, List.range'_succ, List.range'_zero, List.forIn_cons, List.forIn_nil]
  go_simp
  by_cases h0 : x0 = y0
  · by_cases h1 : x1 = y1
    · by_cases h2 : x2 = y2
      · by_cases h3 : x3 = y3
        · by_cases h4 : x4 = y4
          · by_cases h5 : x5 = y5
            · simp [h0, h1, h2, h3, h4, h5]
            · simp [h0, h1, h2, h3, h4, h5]
          · simp [h0, h1, h2, h3, h4]
        · simp [h0, h1, h2, h3]
      · simp [h0, h1, h2]
    · simp [h0, h1]
  · simp [h0]

theorem good_yes (fs gs : List Int) (q m : Nat) (hm : gs.length = m) (h6 : m ≤ 6) (h : goodR fs gs q m = true) : bitI fs q m 0 = bitI gs 0 m 0 ∧ bitI fs q m 1 = bitI gs 0 m 1 ∧ bitI fs q m 2 = bitI gs 0 m 2 ∧ bitI fs q m 3 = bitI gs 0 m 3 ∧ bitI fs q m 4 = bitI gs 0 m 4 ∧ bitI fs q m 5 = bitI gs 0 m 5 :=
  (six_iff (fun j => bitI fs q m j = bitI gs 0 m j)).1 ((good_bits fs gs q m hm h6).1 h)

set_option maxRecDepth 100000 in
set_option maxHeartbeats 4000000 in
theorem word_impl (fs gs : List Int) (v v2 : Value) (w : World) (hok : okWd fs gs = true) (hn : fs.length ≤ 1048576) (h : Sl (Value.int .i64) 0 w v fs) (hn2 : gs.length ≤ 1048576) (h2 : Sl (Value.int .i64) 0 w v2 gs) :
    Calls Try.prog 30 #[v, v2] w fun e w' => e = .returned (.tuple #[.int .i64 (res_WordAt fs gs), .bool (ok_WordAt fs gs)]) ∧ Below w.heap.size w w' := by
  have hok' := hok
  unfold okWd at hok'
  simp only [Bool.and_eq_true, decide_eq_true_eq] at hok'
  obtain ⟨⟨k1, k2⟩, k3⟩ := hok'
  obtain ⟨l1, l2⟩ := bits_len _ _ k1
  obtain ⟨l3, l4⟩ := bits_len _ _ k2
  have Hb1 := Lib.hid (fun z (hs : Sl (Value.int .i64) 0 z v fs) => bits_impl fs v 64 z (by omega) hn hs)
  have Hb2 := Lib.hid (fun z (hs : Sl (Value.int .i64) 0 z v2 gs) => bits_impl gs v2 6 z (by omega) hn2 hs)
  rw [k1] at Hb1
  rw [k2] at Hb2
  have Hs1 := Lib.hid h
  have Hs2 := Lib.hid h2
  have Hw0 := Lib.hid (from_any gs v2 0 gs.length w (by omega) (by omega) l4 h2)
  have Hwq := Lib.hid (fun q (hq : q < fs.length) z (hs : Sl (Value.int .i64) 0 z v fs) => from_any fs v q gs.length z l2 hq l4 hs)
  have Hy := Lib.hid (fun i h1 h2 h3 => word_some fs gs i fs.length gs.length rfl rfl hok h1 h2 h3)
  have Hno := Lib.hid (word_none fs gs fs.length gs.length rfl rfl hok)
  have Hdf := Lib.hid (fun q => good_no fs gs q gs.length rfl l4)
  have Hsm := Lib.hid (fun q => good_yes fs gs q gs.length rfl l4)
  obtain ⟨p, cap, rfl, hf⟩ := h
  obtain ⟨p2, cap2, rfl, hf2⟩ := h2
  clear hf hf2 hok k1 k2
  generalize hl : fs.length = n at *
  generalize hl2 : gs.length = m at *
  clear hl hl2
  have d1 : decide ((n : Int) < (m : Int)) = false := decide_eq_false (by omega)
  have d3 : decide (n < m) = false := decide_eq_false (by omega)
  go_enter Try.func30, Try.ntmps30
  go_wp2_with fail
  refine (Hb1.out _ Hs1.out).mono ?_
  rintro e w' ⟨rfl, rfl⟩
  go_wp2_with fail
  refine (Hb2.out _ Hs2.out).mono ?_
  rintro e w' ⟨rfl, rfl⟩
  go_wp2_with fail
  refine Hw0.out.mono ?_
  rintro e w1 ⟨rfl, hw1⟩
  have hsz1 : w1.heap.size = w.heap.size + 2 := by rw [hw1]; simp
  have Hb1' : Hid (Below w.heap.size w w1) := Lib.hid (by rw [hw1]; exact ((Below.refl _ w).alloc (Nat.le_refl _) _).alloc (by simp) _)
  clear hw1
  have HB := Lib.hid (show bitsA gs 0 m = #[.int .i64 (bitI gs 0 m 0), .int .i64 (bitI gs 0 m 1), .int .i64 (bitI gs 0 m 2), .int .i64 (bitI gs 0 m 3), .int .i64 (bitI gs 0 m 4), .int .i64 (bitI gs 0 m 5)] from rfl)
  rw [HB.out]
  generalize hy0 : bitI gs 0 m 0 = y0 at *
  generalize hy1 : bitI gs 0 m 1 = y1 at *
  generalize hy2 : bitI gs 0 m 2 = y2 at *
  generalize hy3 : bitI gs 0 m 3 = y3 at *
  generalize hy4 : bitI gs 0 m 4 = y4 at *
  generalize hy5 : bitI gs 0 m 5 = y5 at *
  have HY := Lib.hid (And.intro hy0 (And.intro hy1 (And.intro hy2 (And.intro hy3 (And.intro hy4 hy5)))))
  clear hy0 hy1 hy2 hy3 hy4 hy5
  go_wp2
  go_loopw [7, 29] (fun _ j wr => ∃ q : Nat, q ≤ n ∧ j = .int .i64 (q : Int) ∧ Hid (∀ j, j < q → goodR fs gs j m = false) ∧ Below (w1.heap.size + 1) (w1.alloc (.cells #[Value.int .i64 y0, Value.int .i64 y1, Value.int .i64 y2, Value.int .i64 y3, Value.int .i64 y4, Value.int .i64 y5] 109)) wr) (fun _ j _ => n - (intOf j).toNat)
  case atStart => exact ⟨0, Nat.zero_le _, rfl, fun j hj => absurd hj (by omega), Below.refl _ _⟩
  case round =>
    obtain ⟨q, hq, rfl, hp, hb⟩ := hrel
    have Hb := Lib.hid hb
    clear hb
    have Hb0 : Hid (Below w.heap.size w wr) := Lib.hid ((Hb1'.out.alloc (by omega) _).trans (Hb.out.mono (by omega)))
    by_cases hlt : q < n
    · have Hs : Hid (Sl (Value.int .i64) 0 wr (.slice p n cap) fs) := Lib.hid (Hs1.out.later Hb0.out)
      have Hc := Lib.hid (fun z (hz : Drawn wr z) => Hwq.out q hlt z (Hs.out.drawn hz))
      have c0 : wr.cell? ⟨w.heap.size + 2, 0, none⟩ = some (.int .i64 y0) := (Hb.out.cell (by simp; omega)).trans (by rw [← hsz1, World.cell?_alloc_new]; rfl)
      have c1 : wr.cell? ⟨w.heap.size + 2, 1, none⟩ = some (.int .i64 y1) := (Hb.out.cell (by simp; omega)).trans (by rw [← hsz1, World.cell?_alloc_new]; rfl)
      have c2 : wr.cell? ⟨w.heap.size + 2, 2, none⟩ = some (.int .i64 y2) := (Hb.out.cell (by simp; omega)).trans (by rw [← hsz1, World.cell?_alloc_new]; rfl)
      have c3 : wr.cell? ⟨w.heap.size + 2, 3, none⟩ = some (.int .i64 y3) := (Hb.out.cell (by simp; omega)).trans (by rw [← hsz1, World.cell?_alloc_new]; rfl)
      have c4 : wr.cell? ⟨w.heap.size + 2, 4, none⟩ = some (.int .i64 y4) := (Hb.out.cell (by simp; omega)).trans (by rw [← hsz1, World.cell?_alloc_new]; rfl)
      have c5 : wr.cell? ⟨w.heap.size + 2, 5, none⟩ = some (.int .i64 y5) := (Hb.out.cell (by simp; omega)).trans (by rw [← hsz1, World.cell?_alloc_new]; rfl)
      have hszr : w1.heap.size + 1 ≤ wr.heap.size := by have := Hb.out.size; simp at this; exact this
      have HX := Lib.hid (show bitsA fs q m = #[.int .i64 (bitI fs q m 0), .int .i64 (bitI fs q m 1), .int .i64 (bitI fs q m 2), .int .i64 (bitI fs q m 3), .int .i64 (bitI fs q m 4), .int .i64 (bitI fs q m 5)] from rfl)
      rw [HX.out] at Hc
      generalize hx0 : bitI fs q m 0 = x0 at *
      generalize hx1 : bitI fs q m 1 = x1 at *
      generalize hx2 : bitI fs q m 2 = x2 at *
      generalize hx3 : bitI fs q m 3 = x3 at *
      generalize hx4 : bitI fs q m 4 = x4 at *
      generalize hx5 : bitI fs q m 5 = x5 at *
      have HX6 := Lib.hid (And.intro hx0 (And.intro hx1 (And.intro hx2 (And.intro hx3 (And.intro hx4 hx5)))))
      clear hx0 hx1 hx2 hx3 hx4 hx5
      have e0 : ((wr.alloc (.cells #[Value.int .i64 x0, Value.int .i64 x1, Value.int .i64 x2, Value.int .i64 x3, Value.int .i64 x4, Value.int .i64 x5] 109)).alloc (.cells #[Value.int .i64 x0, Value.int .i64 x1, Value.int .i64 x2, Value.int .i64 x3, Value.int .i64 x4, Value.int .i64 x5] 109)).cell? ⟨w.heap.size + 2, 0, none⟩ = some (.int .i64 y0) := by rw [World.cell?_alloc_lt _ _ _ (by simp; omega), World.cell?_alloc_lt _ _ _ (by simp; omega)]; exact c0
      have e1 : ((wr.alloc (.cells #[Value.int .i64 x0, Value.int .i64 x1, Value.int .i64 x2, Value.int .i64 x3, Value.int .i64 x4, Value.int .i64 x5] 109)).alloc (.cells #[Value.int .i64 x0, Value.int .i64 x1, Value.int .i64 x2, Value.int .i64 x3, Value.int .i64 x4, Value.int .i64 x5] 109)).cell? ⟨w.heap.size + 2, 1, none⟩ = some (.int .i64 y1) := by rw [World.cell?_alloc_lt _ _ _ (by simp; omega), World.cell?_alloc_lt _ _ _ (by simp; omega)]; exact c1
      have e2 : ((wr.alloc (.cells #[Value.int .i64 x0, Value.int .i64 x1, Value.int .i64 x2, Value.int .i64 x3, Value.int .i64 x4, Value.int .i64 x5] 109)).alloc (.cells #[Value.int .i64 x0, Value.int .i64 x1, Value.int .i64 x2, Value.int .i64 x3, Value.int .i64 x4, Value.int .i64 x5] 109)).cell? ⟨w.heap.size + 2, 2, none⟩ = some (.int .i64 y2) := by rw [World.cell?_alloc_lt _ _ _ (by simp; omega), World.cell?_alloc_lt _ _ _ (by simp; omega)]; exact c2
      have e3 : ((wr.alloc (.cells #[Value.int .i64 x0, Value.int .i64 x1, Value.int .i64 x2, Value.int .i64 x3, Value.int .i64 x4, Value.int .i64 x5] 109)).alloc (.cells #[Value.int .i64 x0, Value.int .i64 x1, Value.int .i64 x2, Value.int .i64 x3, Value.int .i64 x4, Value.int .i64 x5] 109)).cell? ⟨w.heap.size + 2, 3, none⟩ = some (.int .i64 y3) := by rw [World.cell?_alloc_lt _ _ _ (by simp; omega), World.cell?_alloc_lt _ _ _ (by simp; omega)]; exact c3
      have e4 : ((wr.alloc (.cells #[Value.int .i64 x0, Value.int .i64 x1, Value.int .i64 x2, Value.int .i64 x3, Value.int .i64 x4, Value.int .i64 x5] 109)).alloc (.cells #[Value.int .i64 x0, Value.int .i64 x1, Value.int .i64 x2, Value.int .i64 x3, Value.int .i64 x4, Value.int .i64 x5] 109)).cell? ⟨w.heap.size + 2, 4, none⟩ = some (.int .i64 y4) := by rw [World.cell?_alloc_lt _ _ _ (by simp; omega), World.cell?_alloc_lt _ _ _ (by simp; omega)]; exact c4
      have e5 : ((wr.alloc (.cells #[Value.int .i64 x0, Value.int .i64 x1, Value.int .i64 x2, Value.int .i64 x3, Value.int .i64 x4, Value.int .i64 x5] 109)).alloc (.cells #[Value.int .i64 x0, Value.int .i64 x1, Value.int .i64 x2, Value.int .i64 x3, Value.int .i64 x4, Value.int .i64 x5] 109)).cell? ⟨w.heap.size + 2, 5, none⟩ = some (.int .i64 y5) := by rw [World.cell?_alloc_lt _ _ _ (by simp; omega), World.cell?_alloc_lt _ _ _ (by simp; omega)]; exact c5
      cases hG : goodR fs gs q m
      · have HG := Lib.hid hG
        have de : decide (x0 = y0 ∧ x1 = y1 ∧ x2 = y2 ∧ x3 = y3 ∧ x4 = y4 ∧ x5 = y5) = false := by
          have := Hdf.out q hG
          obtain ⟨h0, h1, h2, h3, h4, h5⟩ := HX6.out
          rw [h0, h1, h2, h3, h4, h5] at this
          exact decide_eq_false this
        clear hG
        go_wp2_with fail
        go_region_law (go_simp; go_at_call 90; refine (Hc.out _ (by first | exact ⟨0, rfl⟩ | exact ⟨1, rfl⟩ | exact ⟨2, rfl⟩ | exact ⟨3, rfl⟩)).mono ?_; rintro e w2 ⟨rfl, rfl⟩)
        all_goals
          go_wp2
          go_roundw
          case rel => exact ⟨q + 1, by omega, by go_num, Lib.hid fun j hj => by
            by_cases e : j = q
            · subst e; exact HG.out
            · exact hp.out j (by omega), ((Hb.out.alloc (by omega) _).alloc (by simp; omega) _).drew⟩
          case measure => simp [intOf]; omega
      · obtain ⟨o1, o2⟩ := Hy.out q hlt hG hp.out
        have E1 := Lib.hid o1
        have E2 := Lib.hid o2
        have hx := Hsm.out q hG
        obtain ⟨h0, h1, h2, h3, h4, h5⟩ := HX6.out
        rw [h0, h1, h2, h3, h4, h5] at hx
        obtain ⟨rfl, rfl, rfl, rfl, rfl, rfl⟩ := hx
        clear o1 o2 hG h0 h1 h2 h3 h4 h5
        go_wp2_with fail
        go_region_law (go_simp; go_at_call 90; refine (Hc.out _ (by first | exact ⟨0, rfl⟩ | exact ⟨1, rfl⟩ | exact ⟨2, rfl⟩ | exact ⟨3, rfl⟩)).mono ?_; rintro e w2 ⟨rfl, rfl⟩)
        all_goals
          go_wp2
          go_ret2
          exact ⟨by rw [E1.out, E2.out]; rfl, ((Hb0.out.alloc (by omega) _).alloc (by simp; omega) _).drew⟩
    · obtain rfl : q = n := by omega
      obtain ⟨e1, e2⟩ := Hno.out hp.out
      have E1 := Lib.hid e1
      have E2 := Lib.hid e2
      clear e1 e2
      go_wp2
      go_ret2
      exact ⟨by rw [E1.out, E2.out]; rfl, Hb0.out⟩

theorem impl_WordAt (fs : List Int) (v : Value) (gs : List Int) (v2 : Value) (w : World) (hn : fs.length ≤ 1048576) (h : Sl (Value.int .i64) 0 w v fs) (hn2 : gs.length ≤ 1048576) (h2 : Sl (Value.int .i64) 0 w v2 gs) :
    Calls Try.prog 30 #[v, v2] w fun e w' => e = .returned (.tuple #[.int .i64 (res_WordAt fs gs), .bool (ok_WordAt fs gs)]) ∧ Below w.heap.size w w' := by
  by_cases hok : okWd fs gs = true
  · exact word_impl fs gs v v2 w hok hn h hn2 h2
  · have Hb1 := Lib.hid (fun z (hs : Sl (Value.int .i64) 0 z v fs) => bits_impl fs v 64 z (by omega) hn hs)
    have Hb2 := Lib.hid (fun z (hs : Sl (Value.int .i64) 0 z v2 gs) => bits_impl gs v2 6 z (by omega) hn2 hs)
    have Hs1 := Lib.hid h
    have Hs2 := Lib.hid h2
    obtain ⟨p, cap, rfl, hf⟩ := h
    obtain ⟨p2, cap2, rfl, hf2⟩ := h2
    clear hf hf2
    have hno : okWd fs gs = false := by simpa using hok
    obtain ⟨e1, e2⟩ := word_no fs gs hno
    rw [e1, e2]
    clear e1 e2 hok
    cases k1 : bitsB fs 64
    · rw [k1] at Hb1
      clear hno k1
      go_enter Try.func30, Try.ntmps30
      go_wp2_with fail
      refine (Hb1.out _ Hs1.out).mono ?_
      rintro e w' ⟨rfl, rfl⟩
      go_wp2
      go_ret2
      exact ⟨rfl, Below.refl _ _⟩
    · rw [k1] at Hb1
      cases k2 : bitsB gs 6
      · rw [k2] at Hb2
        clear hno k1 k2
        go_enter Try.func30, Try.ntmps30
        go_wp2_with fail
        refine (Hb1.out _ Hs1.out).mono ?_
        rintro e w' ⟨rfl, rfl⟩
        go_wp2_with fail
        refine (Hb2.out _ Hs2.out).mono ?_
        rintro e w' ⟨rfl, rfl⟩
        go_wp2
        go_ret2
        exact ⟨rfl, Below.refl _ _⟩
      · have h3 : fs.length < gs.length := by
          unfold okWd at hno
          rw [k1, k2] at hno
          simp only [Bool.true_and, decide_eq_false_iff_not] at hno
          omega
        rw [k2] at Hb2
        clear hno k1 k2
        have d1 : decide ((fs.length : Int) < (gs.length : Int)) = true := decide_eq_true (by omega)
        have d3 : decide (fs.length < gs.length) = true := decide_eq_true (by omega)
        go_enter Try.func30, Try.ntmps30
        go_wp2_with fail
        refine (Hb1.out _ Hs1.out).mono ?_
        rintro e w' ⟨rfl, rfl⟩
        go_wp2_with fail
        refine (Hb2.out _ Hs2.out).mono ?_
        rintro e w' ⟨rfl, rfl⟩
        go_wp2
        go_ret2
        exact ⟨rfl, Below.refl _ _⟩
end Go.Proofs.Ytolmhnekfokpdac
