/- Contracts: the order of players, in the program. -/
import Derived.Test.YtfipcpbibmhjoabAc
import Derived.Test.YtfipcpbibmhjoabSv
set_option linter.unusedVariables false
namespace Go.Proofs.Ytfipcpbibmhjoab
open Go.RowKit
set_option maxHeartbeats 2000000 in
theorem stable_any (s o : List Int) (vs vo : Value) (n cap : Nat) (Bs Bo D : Nat) (w0 w : World) (hs : Sl (Value.int .i64) 0 w0 vs s) (ho : Sl (Value.int .i64) 0 w0 vo o) (hn : s.length = n) (hl : o.length = n) (h2 : 2 ≤ n) (h16 : n ≤ 16)
    (k1 : w0.cell? ⟨Bs, 0, none⟩ = some vs) (k2 : w0.cell? ⟨Bo, 0, none⟩ = some vo) (hD : w0.heap.size ≤ D) (hb : Below w0.heap.size w0 w) (hr : Sw (Value.int .i64) 0 w (.slice (some ⟨D, 0, none⟩) n cap) (rowI (List.range n)) D (D + 1)) :
    Calls Try.prog 134 #[.slice (some ⟨D, 0, none⟩) n cap, .int .i64 (n : Int), .func (.func 100) #[] #[.pointer (some ⟨Bs, 0, none⟩), .pointer (some ⟨Bo, 0, none⟩)]] w fun e w' => e = .returned (.tuple #[]) ∧ (∃ l, Ord s o n l ∧ Sw (Value.int .i64) 0 w' (.slice (some ⟨D, 0, none⟩) n cap) (rowI l) D (D + 1)) ∧ Below D w w' := by
  have H := Lib.hid (insertion_any s o vs vo n cap Bs Bo D w0 w hs ho hn hl h2 h16 k1 k2 hD hb hr)
  have q1 : decide ((20 : Int) ≤ (n : Int)) = false := decide_eq_false (by omega)
  have q2 : decide ((20 : Int) < (n : Int)) = false := decide_eq_false (by omega)
  clear hs ho k1 k2 hb hr hn hl
  go_enter Try.func134, Try.ntmps134
  go_wp2
  go_loopw [7, 8] (fun av bv wr => av = .int .i64 0 ∧ bv = .int .i64 20 ∧ Hid (wr = w)) (fun _ _ _ => 0)
  case atStart => exact ⟨rfl, rfl, Lib.hid rfl⟩
  case round =>
    obtain ⟨rfl, rfl, hw⟩ := hrel
    obtain rfl := hw.out
    go_wp2_with (go_at_call 146; refine (H.out).mono ?_; rintro e w' ⟨rfl, hx, hb⟩; have Hx := Lib.hid hx; have Hb := Lib.hid hb; clear hx hb)
    go_loopw [6] (fun bv wx => bv = .int .i64 20 ∧ Hid (∃ l, Ord s o n l ∧ Sw (Value.int .i64) 0 wx (.slice (some ⟨D, 0, none⟩) n cap) (rowI l) D (D + 1)) ∧ Hid (Below D wr wx)) (fun _ _ => 0)
    case atStart => exact ⟨rfl, Hx, Hb⟩
    case round =>
      obtain ⟨rfl, Hx, Hb⟩ := hrel
      go_wp2
      go_end0
      exact ⟨rfl, Hx.out, Hb.out⟩
set_option maxHeartbeats 2000000 in
theorem sortS_any (s o : List Int) (vs vo : Value) (n cap : Nat) (Bs Bo D : Nat) (w0 w : World) (hs : Sl (Value.int .i64) 0 w0 vs s) (ho : Sl (Value.int .i64) 0 w0 vo o) (hn : s.length = n) (hl : o.length = n) (h2 : 2 ≤ n) (h16 : n ≤ 16)
    (k1 : w0.cell? ⟨Bs, 0, none⟩ = some vs) (k2 : w0.cell? ⟨Bo, 0, none⟩ = some vo) (hD : w0.heap.size ≤ D) (hb : Below w0.heap.size w0 w) (hr : Sw (Value.int .i64) 0 w (.slice (some ⟨D, 0, none⟩) n cap) (rowI (List.range n)) D (D + 1)) :
    Calls Try.prog 99 #[.slice (some ⟨D, 0, none⟩) n cap, .func (.func 100) #[] #[.pointer (some ⟨Bs, 0, none⟩), .pointer (some ⟨Bo, 0, none⟩)]] w fun e w' => e = .returned (.tuple #[]) ∧ (∃ l, Ord s o n l ∧ Sw (Value.int .i64) 0 w' (.slice (some ⟨D, 0, none⟩) n cap) (rowI l) D (D + 1)) ∧ Below D w w' := by
  have H := Lib.hid (stable_any s o vs vo n cap Bs Bo D w0 w hs ho hn hl h2 h16 k1 k2 hD hb hr)
  clear hs ho k1 k2 hb hr hn hl
  go_enter Try.func99, Try.ntmps99
  go_wp2_with (go_at_call 134; refine (H.out).mono ?_; rintro e w' ⟨rfl, hx, hb⟩; have Hx := Lib.hid hx; have Hb := Lib.hid hb; clear hx hb)
  go_end0
  exact ⟨rfl, Hx.out, Hb.out⟩
theorem clo_tie (k : Nat) (w : World) : Calls Try.prog 98 (#[.int .i64 (k : Int)] ++ #[]) w fun e w' => e = .returned (.int .i64 (k : Int)) ∧ Drawn w w' := by
  show Calls Try.prog 98 #[.int .i64 (k : Int)] w fun e w' => e = .returned (.int .i64 (k : Int)) ∧ Drawn w w'
  go_enter Try.func98, Try.ntmps98
  go_wp2
  go_ret
  exact ⟨ret_int rfl, .refl _⟩
theorem tab_range (n : Nat) : tab n (fun k => (k : Int)) = rowI (List.range n) := rfl
set_option maxRecDepth 100000 in
set_option maxHeartbeats 4000000 in
theorem tie_good (s o : List Int) (vs vo : Value) (n : Nat) (w : World) (hs : Sl (Value.int .i64) 0 w vs s) (ho : Sl (Value.int .i64) 0 w vo o) (hn : s.length = n) (hl : o.length = n) (h2 : 2 ≤ n) (h16 : n ≤ 16) (ga : allB 0 1000 s = true) (gb : allB 0 1000000 o = true) :
    Calls Try.prog 47 #[vs, vo] w fun e w' => ∃ D l, e = .returned (.tuple #[.slice (some ⟨D, 0, none⟩) n n, .bool true]) ∧ Ord s o n l ∧ Sw (Value.int .i64) 0 w' (.slice (some ⟨D, 0, none⟩) n n) (rowI l) w.heap.size w'.heap.size ∧ Below w.heap.size w w' := by
  have Hp := Lib.hid (fun z => players_any (n : Int) z)
  rw [show rB (n : Int) 2 16 = true by unfold rB; rw [decide_eq_true (show (2 : Int) ≤ (n : Int) by omega), decide_eq_true (show (n : Int) ≤ 16 by omega)]; rfl] at Hp
  obtain ⟨w2, hw2⟩ : ∃ z, z = (w.alloc (.cells #[vs] 22)).alloc (.cells #[vo] 22) := ⟨_, rfl⟩
  have hB2 : Below w.heap.size w w2 := by rw [hw2]; exact ((Below.refl _ w).alloc (Nat.le_refl _) _).alloc (by simp) _
  have hz2 : w2.heap.size = w.heap.size + 2 := by rw [hw2]; simp
  have k1 : w2.cell? ⟨w.heap.size, 0, none⟩ = some vs := by rw [hw2, World.cell?_alloc_past _ _ _ (by simp)]; exact World.cell?_alloc_at _ _ _ _ rfl
  have k2 : w2.cell? ⟨w.heap.size + 1, 0, none⟩ = some vo := by rw [hw2]; exact World.cell?_alloc_at _ _ _ _ (by simp)
  have hs2 := hs.later hB2
  have ho2 := ho.later hB2
  have HS := Lib.hid (fun z (hz : Below w2.heap.size w2 z) => areW_any s vs 0 1000 z (by omega) (hs2.later hz))
  have HO := Lib.hid (fun z (hz : Below w2.heap.size w2 z) => areW_any o vo 0 1000000 z (by omega) (ho2.later hz))
  rw [ga] at HS
  rw [gb] at HO
  have Hd := Lib.hid (fun z => deckBy_own n 98 #[] (fun k => (k : Int)) z (by omega) (run_enter Try.func98 (by kernel_rfl) (by kernel_rfl)) (fun k w' _ _ => clo_tie k w'))
  have Hsort := Lib.hid (fun D z hD hb hr => sortS_any s o vs vo n n w.heap.size (w.heap.size + 1) D w2 z hs2 ho2 hn hl h2 h16 k1 k2 hD hb hr)
  have HB2 := Lib.hid hB2
  have K1 := Lib.hid (fun z (hz : Below w2.heap.size w2 z) => cell_keep hz k1)
  have K2 := Lib.hid (fun z (hz : Below w2.heap.size w2 z) => cell_keep hz k2)
  have Hw2 := Lib.hid hw2
  obtain ⟨p1, cap1, e1, -⟩ := hs
  obtain ⟨p2, cap2, e2, -⟩ := ho
  rw [hn] at e1
  rw [hl] at e2
  subst e1
  subst e2
  clear hs2 ho2 hB2 ga gb k1 k2 hn hl
  have hne : ((n : Int) != (n : Int)) = false := by simp
  go_enter Try.func47, Try.ntmps47
  go_wp2_with (go_at_call 95; refine (Hp.out _).mono ?_; rintro e w' ⟨rfl, rfl⟩)
  rw [← hw2]
  clear hw2
  refine (HS.out w2 (Below.refl _ _)).mono ?_
  rintro e w3 ⟨rfl, hb3⟩
  have k3 := K2.out w3 hb3
  have HB3 := Lib.hid hb3
  clear hb3
  go_wp2_with fail
  refine (HO.out w3 HB3.out).mono ?_
  rintro e w4 ⟨rfl, hb4⟩
  have HB4 := Lib.hid (HB3.out.trans (hb4.mono HB3.out.size))
  have k4 := K1.out w4 HB4.out
  clear hb4
  go_wp2_with fail
  refine (Hd.out w4).mono ?_
  rintro e w5 ⟨rfl, ho5, hb5⟩
  have HB5 := Lib.hid (HB4.out.trans (hb5.mono HB4.out.size))
  have hD : w2.heap.size ≤ w4.heap.size := HB4.out.size
  have HR : Hid (Sw (Value.int .i64) 0 w5 (.slice (some ⟨w4.heap.size, 0, none⟩) n n) (rowI (List.range n)) w4.heap.size (w4.heap.size + 1)) := Lib.hid (by
    have hlr : (rowI (List.range n)).length = n := by rw [rowI_len, List.length_range]
    refine ⟨_, _, by rw [hlr], fun _ => ⟨by rw [hlr]; exact Nat.le_refl _, w4.heap.size, 0, rfl, Nat.le_refl _, Nat.lt_succ_self _, (ho5.lt w4.heap.size (by rfl)).2, fun i hi => ⟨?_, ?_⟩⟩⟩
    · rw [hlr] at hi
      rw [Nat.zero_add, ho5.cellAt i (by omega), List.getElem?_map, tab_range, List.getElem?_eq_getElem (by rw [hlr]; exact hi), getD_lt _ 0 _ (by rw [hlr]; exact hi)]; rfl
    · rw [Nat.zero_add]; exact ho5.frozenAt i)
  clear ho5 hb5 k3 k4
  go_wp2_with fail
  refine (Hsort.out w4.heap.size w5 hD HB5.out HR.out).mono ?_
  rintro e w6 ⟨rfl, ⟨l, hl1, hl2⟩, hb6⟩
  have HB6 := Lib.hid (HB5.out.trans (hb6.mono hD))
  have HL := Lib.hid hl1
  have HL2 := Lib.hid hl2
  clear hl1 hl2 hb6
  go_wp2
  go_ret2
  have hzz := HB6.out.size
  have hbb := (Sw.open' HL2.out 0 (by rw [rowI_len, HL.out.len]; omega))
  obtain ⟨_, _, _, ⟨_, _, hh⟩, _⟩ := hbb
  exact ⟨_, l, rfl, HL.out, HL2.out.mono (by omega) hh (Nat.le_refl _), HB2.out.trans (HB6.out.mono (by omega))⟩
end Go.Proofs.Ytfipcpbibmhjoab
