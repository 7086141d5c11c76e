/- Contracts: values of heaps: TakeValues, in both texts. -/
import Derived.Test.YtodmaomngpnboaaYc
import Derived.RangeFuncBox
set_option linter.unusedVariables false
namespace Go.Proofs.Ytodmaomngpnboaa
open Go.RowKit

set_option maxRecDepth 100000 in
set_option maxHeartbeats 4000000 in
theorem values_any (n K : Nat) (caps : Array Value) (V L : Nat → List Int) (w : World) (hn : n ≤ 1000)
    (hV0 : V 0 = []) (hV : ∀ k, V (k + 1) = V k ++ [((mexN (L k) : Nat) : Int)]) (hVl : ∀ k, (V k).length = k) (hL : ∀ k, k ≤ n → (L k).length ≤ 1048576)
    (hent : ∀ args w, (callFunc K args).run Try.prog w = .ok (.enter K args) w)
    (hc : ∀ k v w', k ≤ n → Below w.heap.size w w' → Sl (Value.int .i64) 0 w' v (V k) → Calls Try.prog K (#[v] ++ caps) w' fun e w'' => ∃ r, e = .returned r ∧ Sl (Value.int .i64) 0 w'' r (L k) ∧ Below w'.heap.size w' w'') :
    Calls Try.prog 91 #[.int .i64 (n : Int), .func (.func K) #[] caps] w fun e w' => ∃ r, e = .returned r ∧ Sw (Value.int .i64) 0 w' r (V (n + 1)) w.heap.size w'.heap.size ∧ Below w.heap.size w w' := by
  obtain ⟨i0, hi, hz0, hz1, hz2⟩ := info_parts (show (Try.prog.info? 2).map (fun i => (i.zero, i.size, i.bytes)) = some (some (.int .i64 0), 1, 8) by kernel_rfl)
  have Hc := Lib.hid hc
  have HV := Lib.hid hV
  have HVl := Lib.hid hVl
  have HL := Lib.hid hL
  have HV0 := Lib.hid hV0
  have Hmex := Lib.hid (fun fs v w h1 h2 => mex_impl fs v w h1 h2)
  clear hc hV hVl hL hV0
  go_enter Try.func91, Try.ntmps91
  go_wp2
  go_loopw [5, 8] (fun vs i wr => ∃ (k : Nat) (lv : Value), lv = vs ∧ k ≤ n + 1 ∧ i = .int .i64 (k : Int) ∧ Hid (wr.ownsRow w.heap.size 2 1 vs (V k).length ((V k).map (Value.int .i64))) ∧ Hid (Below w.heap.size w wr)) (fun _ i _ => n + 1 - (intOf i).toNat)
  case atStart => exact ⟨0, _, rfl, Nat.zero_le _, rfl, Lib.hid (by rw [HV0.out]; exact World.ownsRow_nil _ _ _ _), Lib.hid (Below.refl _ _)⟩
  case round =>
    obtain ⟨k, lv, rfl, hk, rfl, hown, hb⟩ := hrel
    have hsz := hb.out.size
    by_cases hlt : k < n + 1
    · have hvl := HVl.out k
      have HVs := Lib.hid (HV.out k)
      have hll := HL.out k (by omega)
      have HC := Lib.hid (Hc.out k lv wr (by omega) hb.out (Sw.of_owns hown.out rfl).sl)
      generalize V k = Vk at *
      generalize L k = Lk at *
      go_wp2_with (refine (HC.out).mono ?_; rintro e w1 ⟨r, rfl, hr, hb1⟩; have Hr := Lib.hid (Hmex.out _ _ _ hll hr); have Hown1 := Lib.hid (own_laterY hown.out hb1); have Hb1 := Lib.hid (hb.out.trans (hb1.mono hsz)); have hsz1 := hb1.size; clear hr hb1)
      go_wp2_with fail
      refine (Hr.out).mono ?_
      rintro e w2 ⟨rfl, rfl⟩
      generalize mexN Lk = M at *
      go_wp2_with (at_builtin; refine wpList_append_own _ rfl _ _ 22 rfl w.heap.size 2 i0 (.int .i64 0) 1 8 (by kernel_rfl) hi hz0 hz1 hz2 rfl (by decide) _ _ _ rfl (Hown1.out.alloc _) ⟨w1.heap.size, 0, none⟩ 1 1 [.int .i64 ((M : Int))] rfl rfl (cell_one_new _ _ _) (one_int _) (by unfold maxLen; omega) (by omega) (by simp; omega) ?_; intro v2 w2 hown2 hgrow2 _)
      have Hown2 := Lib.hid (own_addY hown2)
      have Hb2 := Lib.hid ((Hb1.out.alloc (by omega) _).grown hgrow2 (by simp; omega) (fun b hb => (Hown1.out.lt b hb).1))
      clear hown2 hgrow2
      go_wp2
      go_roundw
      case rel => exact ⟨k + 1, _, rfl, by omega, by go_num, Lib.hid (by rw [HVs.out]; exact Hown2.out), Hb2⟩
      case measure => simp [intOf]; omega
    · obtain rfl : k = n + 1 := by omega
      go_wp2
      go_ret
      exact ⟨_, rfl, Sw.of_owns hown.out rfl, hb.out⟩

set_option maxHeartbeats 4000000 in
theorem clo_take (ms vs : List Int) (v u : Value) (bc : Nat) (w : World) (hm : ms.length ≤ 8) (hb : ∀ i, i < ms.length → 1 ≤ ms.getD i 0 ∧ ms.getD i 0 ≤ 200) (hvl : vs.length ≤ 1000) (c1 : w.cell? ⟨bc, 0, none⟩ = some u) (hs : Sl (Value.int .i64) 0 w u ms) (hv : Sl (Value.int .i64) 0 w v vs) :
    Calls Try.prog 92 #[v, .pointer (some ⟨bc, 0, none⟩)] w fun e w' => ∃ r, e = .returned r ∧ Sl (Value.int .i64) 0 w' r (leftT ms vs vs.length ms.length) ∧ Below w.heap.size w w' := by
  obtain ⟨i0, hi, hz0, hz1, hz2⟩ := info_parts (show (Try.prog.info? 2).map (fun i => (i.zero, i.size, i.bytes)) = some (some (.int .i64 0), 1, 8) by kernel_rfl)
  obtain ⟨p, cap, rfl, hf⟩ := hs
  obtain ⟨q, cap', rfl, hg⟩ := hv
  have Hf := Lib.hid hf
  have Hg := Lib.hid hg
  have HB := Lib.hid hb
  have Hy := Lib.hid (leftT_yes ms vs vs.length)
  have Hno := Lib.hid (leftT_no ms vs vs.length)
  have Hll := Lib.hid (leftT_len ms vs vs.length)
  clear hf hg hb
  generalize hL : leftT ms vs vs.length = L at *
  have H0 := Lib.hid (show L 0 = [] by rw [← hL]; rfl)
  clear hL
  obtain ⟨m, hm1⟩ : ∃ m, m = ms.length := ⟨_, rfl⟩
  obtain ⟨n, hn1⟩ : ∃ n, n = vs.length := ⟨_, rfl⟩
  rw [← hm1] at hm Hf HB c1 ⊢
  rw [← hn1] at hvl Hg Hy Hno ⊢
  clear hm1 hn1
  go_enter Try.func92, Try.ntmps92
  go_wp2
  go_loopw [4, 10] (fun l i wr => ∃ (k : Nat) (lv : Value), lv = l ∧ k ≤ m ∧ i = .int .i64 (k : Int) ∧ Hid (wr.ownsRow w.heap.size 2 1 l (L k).length ((L k).map (Value.int .i64))) ∧ Hid (Below w.heap.size w wr)) (fun _ i _ => m - (intOf i).toNat)
  case atStart => exact ⟨0, _, rfl, Nat.zero_le _, rfl, Lib.hid (by rw [H0.out]; exact World.ownsRow_nil _ _ _ _), Lib.hid (Below.refl _ _)⟩
  case round =>
    obtain ⟨k, lv, rfl, hk, rfl, hown, hbw⟩ := hrel
    have hsz := hbw.out.size
    by_cases hlt : k < m
    · obtain ⟨hcap, b, off, rfl, hbs, hcell⟩ := Hf.out (by omega)
      have c2 := cell_keep hbw.out (hcell k hlt)
      obtain ⟨x0, x1⟩ := HB.out k hlt
      have hyk := Hy.out k
      have hnk := Hno.out k
      have hlk := Hll.out k
      clear hcell
      generalize ms.getD k 0 = x at *
      by_cases hx : x ≤ (n : Int)
      · obtain ⟨r, hr⟩ : ∃ r : Nat, (n : Int) - x = r := ⟨((n : Int) - x).toNat, by omega⟩
        have Hst := Lib.hid (hyk hx)
        rw [hr, Int.toNat_natCast] at Hst
        have hrn : r < n := by omega
        obtain ⟨hcap2, b2, off2, rfl, hbs2, hcell2⟩ := Hg.out (by omega)
        have c3 := cell_keep hbw.out (hcell2 r hrn)
        clear hcell2 hyk hnk
        generalize vs.getD r 0 = y at *
        generalize L k = Lk at *
        go_wp2_with (at_builtin; refine wpList_append_own _ rfl _ _ 22 rfl w.heap.size 2 i0 (.int .i64 0) 1 8 (by kernel_rfl) hi hz0 hz1 hz2 rfl (by decide) _ _ _ rfl (hown.out.alloc _) ⟨wr.heap.size, 0, none⟩ 1 1 [.int .i64 (y)] rfl rfl (cell_one_new _ _ _) (one_int _) (by unfold maxLen; omega) (by omega) (by simp; omega) ?_; intro v2 w2 hown2 hgrow2 _)
        have Hown2 := Lib.hid (own_addY hown2)
        have Hb2 := Lib.hid ((hbw.out.alloc (by omega) _).grown hgrow2 (by simp; omega) (fun b hb => (hown.out.lt b hb).1))
        clear hown2 hgrow2
        go_wp2
        go_roundw
        case rel => exact ⟨k + 1, _, rfl, by omega, by go_num, Lib.hid (by rw [Hst.out]; exact Hown2.out), Hb2⟩
        case measure => simp [intOf]; omega
      · have Hst := Lib.hid (hnk (by omega))
        clear hyk hnk
        have d : decide (0 ≤ (n : Int) - x) = false := decide_eq_false (by omega)
        have d2 : decide (x ≤ (n : Int)) = false := decide_eq_false (by omega)
        go_wp2
        go_roundw
        case rel => exact ⟨k + 1, _, rfl, by omega, by go_num, Lib.hid (by rw [Hst.out]; exact hown.out), hbw⟩
        case measure => simp [intOf]; omega
    · obtain rfl : k = m := by omega
      go_wp2
      go_ret
      exact ⟨_, rfl, (Sw.of_owns hown.out rfl).sl, hbw.out⟩

def okTV (fs : List Int) (n : Int) : Bool := movB fs && (decide (0 ≤ n) && decide (n ≤ 200))
def ok_TakeValues (fs : List Int) (n : Int) : Bool := okTV fs n
def res_TakeValues (fs : List Int) (n : Int) : List Int := if okTV fs n = true then valT fs (n.toNat + 1) else []
theorem len_TakeValues (fs : List Int) (n : Int) : (res_TakeValues fs n).length ≤ 1048576 := by
  unfold res_TakeValues
  split
  · rename_i h
    unfold okTV at h
    simp only [Bool.and_eq_true, decide_eq_true_eq] at h
    rw [valT_len]; omega
  · exact Nat.zero_le _
set_option maxRecDepth 100000 in
set_option maxHeartbeats 4000000 in
theorem impl_TakeValues (fs : List Int) (v : Value) (a : Int) (al : -9223372036854775808 ≤ a) (au : a ≤ 9223372036854775807) (w : World) (hn : fs.length ≤ 1048576) (h : Sl (Value.int .i64) 0 w v fs) :
    Calls Try.prog 38 #[v, .int .i64 a] w fun e w' => ∃ r, e = .returned (.tuple #[r, .bool (ok_TakeValues fs a)]) ∧ Sw (Value.int .i64) 0 w' r (res_TakeValues fs a) w.heap.size w'.heap.size ∧ Below w.heap.size w w' := by
  have Hs := Lib.hid h
  have b0 := fun p cap => Boxed.new w 22 (.slice p fs.length cap)
  have hW := fun u => (Below.refl w.heap.size w).alloc (Nat.le_refl _) (.cells #[u] 22)
  have HM := Lib.hid (moves_impl fs v (w.alloc (.cells #[v] 22)) hn (h.later (hW v)))
  have HA := Lib.hid (fun z => withinC_any a 0 200 z)
  unfold ok_TakeValues res_TakeValues okTV
  cases hm : movB fs
  · rw [hm] at HM
    obtain ⟨p, cap, rfl, -⟩ := h
    have c0 := (b0 p cap).cell
    have Hb0 := Lib.hid (hW (.slice p fs.length cap))
    clear hm b0 hW
    rw [Bool.false_and, if_neg Bool.false_ne_true]
    generalize fs.length = L at *
    go_enter Try.func38, Try.ntmps38
    go_wp2_with (go_at_call 90; refine HM.out.mono ?_; rintro e w1 ⟨rfl, hb⟩; have Hb := Lib.hid (Hb0.out.trans (hb.mono Hb0.out.size)); clear hb)
    go_ret2
    exact ⟨_, rfl, Sw.nil _ _ _ _ _ _ _, Hb.out⟩
  · rw [hm] at HM
    obtain ⟨m1, m2, m3, m4⟩ := movB_at hm
    by_cases ha : 0 ≤ a ∧ a ≤ 200
    · rw [decide_eq_true ha.1, decide_eq_true ha.2] at HA
      rw [decide_eq_true ha.1, decide_eq_true ha.2, if_pos (by rfl)]
      obtain ⟨n, rfl⟩ : ∃ n : Nat, a = n := ⟨a.toNat, by omega⟩
      rw [Int.toNat_natCast]
      obtain ⟨p, cap, rfl, -⟩ := h
      have c0 := (b0 p cap).cell
      have Hc0 := Lib.hid c0
      have Hb0 := Lib.hid (hW (.slice p fs.length cap))
      have HV := Lib.hid (fun w1 (hb : Below w.heap.size w w1) (c1 : w1.cell? ⟨w.heap.size, 0, none⟩ = some (.slice p fs.length cap)) => values_any n 92 #[.pointer (some ⟨w.heap.size, 0, none⟩)] (valT fs) (fun k => leftT fs (valT fs k) k fs.length) w1 (by omega) rfl (fun k => rfl) (valT_len fs) (fun k _ => by have := leftT_len fs (valT fs k) k fs.length; omega)
        (run_enter Try.func92 (by kernel_rfl) (by kernel_rfl))
        (fun k v w' hk hb' hv => by
          have := clo_take fs (valT fs k) v (.slice p fs.length cap) w.heap.size w' m2 m3 (by rw [valT_len]; omega) (cell_keep hb' c1) (Hs.out.later (hb.trans (hb'.mono hb.size))) hv
          rw [valT_len] at this
          exact this))
      clear hm b0 hW m3 m4 c0
      have c0 := Hc0.out
      have hF : Hid (fs.length = fs.length) := Lib.hid rfl
      generalize valT fs = V at *
      generalize fs.length = L at *
      go_enter Try.func38, Try.ntmps38
      go_wp2_with (first | (go_at_call 90; refine HM.out.mono ?_; rintro e w1 ⟨rfl, hb⟩; have c1 := cell_keep hb Hc0.out; have Hb := Lib.hid (Hb0.out.trans (hb.mono Hb0.out.size)); have hsz := hb.size; clear hb) | (go_at_call 71; refine (HA.out _).mono ?_; rintro e w3 ⟨rfl, rfl⟩) | (go_at_call 91; refine (HV.out _ Hb.out c1).mono ?_; rintro e w2 ⟨r, rfl, hr, hb2⟩; have Hr := Lib.hid hr; have Hb2 := Lib.hid hb2; clear hr hb2))
      go_ret2
      have hz := Hb.out.size
      exact ⟨_, rfl, Hr.out.mono hz (Nat.le_refl _) (Nat.le_refl _), Hb.out.trans (Hb2.out.mono hz)⟩
    · have e : (decide (0 ≤ a) && decide (a ≤ 200)) = false := by simpa using ha
      rw [e] at HA
      rw [e, Bool.and_false, if_neg Bool.false_ne_true]
      obtain ⟨p, cap, rfl, -⟩ := h
      have c0 := (b0 p cap).cell
      have Hb0 := Lib.hid (hW (.slice p fs.length cap))
      clear hm b0 hW m1 m2 m3 m4 ha e
      generalize fs.length = L at *
      go_enter Try.func38, Try.ntmps38
      go_wp2_with (first | (go_at_call 90; refine HM.out.mono ?_; rintro e w1 ⟨rfl, hb⟩; have Hb := Lib.hid (Hb0.out.trans (hb.mono Hb0.out.size)); clear hb) | (go_at_call 71; refine (HA.out _).mono ?_; rintro e w3 ⟨rfl, rfl⟩))
      go_ret2
      exact ⟨_, rfl, Sw.nil _ _ _ _ _ _ _, Hb.out⟩
end Go.Proofs.Ytodmaomngpnboaa
