/- Contracts: values of heaps: TakeValues, in both texts. -/
import Derived.Test.YtglmahgbdgbbpabYc
import Derived.RangeFuncBox
set_option linter.unusedVariables false
namespace Go.Proofs.Ytglmahgbdgbbpab
open Go.RowKit

set_option maxRecDepth 100000 in
set_option maxHeartbeats 4000000 in
theorem values_any (n K : Nat) (caps : Array Value) (V L : Nat → List Int) (w : World) (hn : n ≤ 1000)
    (hV0 : V 0 = []) (hV : ∀ k, V (k + 1) = V k ++ [((mexN (L k) : Nat) : Int)]) (hVl : ∀ k, (V k).length = k) (hL : ∀ k, k ≤ n → (L k).length ≤ 1048576)
    (hent : ∀ args w, (callFunc K args).run Try.prog w = .ok (.enter K args) w)
    (hc : ∀ k v w', k ≤ n → Below w.heap.size w w' → Sl (Value.int .i64) 0 w' v (V k) → Calls Try.prog K (#[v] ++ caps) w' fun e w'' => ∃ r, e = .returned r ∧ Sl (Value.int .i64) 0 w'' r (L k) ∧ Below w'.heap.size w' w'') :
    Calls Try.prog 53 #[.int .i64 (n : Int), .func (.func K) #[] caps] w fun e w' => ∃ r, e = .returned r ∧ Sw (Value.int .i64) 0 w' r (V (n + 1)) w.heap.size w'.heap.size ∧ Below w.heap.size w w' := by
  obtain ⟨i0, hi, hz0, hz1, hz2⟩ := info_parts (show (Try.prog.info? 2).map (fun i => (i.zero, i.size, i.bytes)) = some (some (.int .i64 0), 1, 8) by kernel_rfl)
  have Hc := Lib.hid hc
  have HV := Lib.hid hV
  have HVl := Lib.hid hVl
  have HL := Lib.hid hL
  have HV0 := Lib.hid hV0
  have Hmex := Lib.hid (fun fs v w h1 h2 => mex_impl fs v w h1 h2)
  clear hc hV hVl hL hV0
  go_enter Try.func53, Try.ntmps53
  go_wp2
  go_loopw [5, 8] (fun vs i wr => ∃ (k : Nat) (lv : Value), lv = vs ∧ k ≤ n + 1 ∧ i = .int .i64 (k : Int) ∧ Hid (wr.ownsRow w.heap.size 2 1 vs (V k).length ((V k).map (Value.int .i64))) ∧ Hid (Below w.heap.size w wr)) (fun _ i _ => n + 1 - (intOf i).toNat)
  case atStart => exact ⟨0, _, rfl, Nat.zero_le _, rfl, Lib.hid (by rw [HV0.out]; exact World.ownsRow_nil _ _ _ _), Lib.hid (Below.refl _ _)⟩
  case round =>
    obtain ⟨k, lv, rfl, hk, rfl, hown, hb⟩ := hrel
    have hsz := hb.out.size
    by_cases hlt : k < n + 1
    · have hvl := HVl.out k
      have HVs := Lib.hid (HV.out k)
      have hll := HL.out k (by omega)
      have HC := Lib.hid (Hc.out k lv wr (by omega) hb.out (Sw.of_owns hown.out rfl).sl)
      generalize V k = Vk at *
      generalize L k = Lk at *
      go_wp2_with (refine (HC.out).mono ?_; rintro e w1 ⟨r, rfl, hr, hb1⟩; have Hr := Lib.hid (Hmex.out _ _ _ hll hr); have Hown1 := Lib.hid (own_laterY hown.out hb1); have Hb1 := Lib.hid (hb.out.trans (hb1.mono hsz)); have hsz1 := hb1.size; clear hr hb1)
      go_wp2_with fail
      refine (Hr.out).mono ?_
      rintro e w2 ⟨rfl, rfl⟩
      generalize mexN Lk = M at *
      go_wp2_with (at_builtin; refine wpList_append_own _ rfl _ _ 22 rfl w.heap.size 2 i0 (.int .i64 0) 1 8 (by kernel_rfl) hi hz0 hz1 hz2 rfl (by decide) _ _ _ rfl (Hown1.out.alloc _) ⟨w1.heap.size, 0, none⟩ 1 1 [.int .i64 ((M : Int))] rfl rfl (cell_one_new _ _ _) (one_int _) (by unfold maxLen; omega) (by omega) (by simp; omega) ?_; intro v2 w2 hown2 hgrow2 _)
      have Hown2 := Lib.hid (own_addY hown2)
      have Hb2 := Lib.hid ((Hb1.out.alloc (by omega) _).grown hgrow2 (by simp; omega) (fun b hb => (Hown1.out.lt b hb).1))
      clear hown2 hgrow2
      go_wp2
      go_roundw
      case rel => exact ⟨k + 1, _, rfl, by omega, by go_num, Lib.hid (by rw [HVs.out]; exact Hown2.out), Hb2⟩
      case measure => simp [intOf]; omega
    · obtain rfl : k = n + 1 := by omega
      go_wp2
      go_ret
      exact ⟨_, rfl, Sw.of_owns hown.out rfl, hb.out⟩


def okTV (fs : List Int) (n : Int) : Bool := movB fs && (decide (0 ≤ n) && decide (n ≤ 200))
def ok_TakeValues (fs : List Int) (n : Int) : Bool := okTV fs n
def res_TakeValues (fs : List Int) (n : Int) : List Int := if okTV fs n = true then valT fs (n.toNat + 1) else []
theorem len_TakeValues (fs : List Int) (n : Int) : (res_TakeValues fs n).length ≤ 1048576 := by
  unfold res_TakeValues
  split
  · rename_i h
    unfold okTV at h
    simp only [Bool.and_eq_true, decide_eq_true_eq] at h
    rw [valT_len]; omega
  · exact Nat.zero_le _
