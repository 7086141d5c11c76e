/- Contracts: dealing down and under, whole. -/
import Derived.Test.YtkhjeijcpldojaaUc
set_option linter.unusedVariables false
namespace Go.Proofs.Ytkhjeijcpldojaa
open Go.RowKit

theorem lf_start {s0 D bc n b0 c0 : Nat} {w' : World} (ho : w'.ownsRow s0 2 1 (.slice (some ⟨b0, 0, none⟩) n c0) n ((tab n fun k => (k : Int)).map (Value.int .i64))) (c : w'.cell? ⟨bc, 0, none⟩ = some (.slice (some ⟨b0, 0, none⟩) n c0)) (f : w'.frozen? ⟨bc, 0, none⟩ = false) (hbD : b0 ≠ D) (hbb : b0 ≠ bc) (hD : D < w'.heap.size) : Lf s0 D bc n 0 w' := by
  refine ⟨b0, 0, c0, c, f, own_cap ho, (ho.lt _ rfl).1, hbD, hbb, hD, fun i hi => ?_, fun i hi => ?_⟩
  · rw [Nat.zero_add]; exact own_cell ho i hi
  · rw [Nat.zero_add]
    refine ⟨?_, ho.frozenAt i⟩
    rcases ho.2 with ⟨h, _⟩ | ⟨g', cap', cur, hv, -, hg, -, -, hsz, -⟩
    · cases h
    · cases hv
      simp [World.cell?, hg]
      omega
theorem frozen_one (w : World) (v : Value) (t : TypeId) : (w.alloc (.cells #[v] t)).frozen? ⟨w.heap.size, 0, none⟩ = false := by
  have := heap_alloc_new w (.cells #[v] t)
  unfold World.frozen?
  rw [show (w.alloc (.cells #[v] t)).heap[(⟨w.heap.size, 0, none⟩ : Addr).block]? = some (.cells #[v] t) from this]
  rfl
theorem new_impl_own (n : Nat) (w : World) (h1 : 1 ≤ n) (h2 : n ≤ 52) :
    Calls Try.prog 42 #[.int .i64 (n : Int)] w fun e w' => ∃ r, e = .returned (.tuple #[r, .bool true]) ∧ w'.ownsRow w.heap.size 2 1 r n ((tab n fun k => (k : Int)).map (Value.int .i64)) ∧ Below w.heap.size w w' := by
  have Hd := Lib.hid (deckBy_st n 63 w.heap.size #[] (fun k => (k : Int)) (fun _ _ => True) w (by omega) (Nat.le_refl _) (run_enter Try.func63 (by kernel_rfl) (by kernel_rfl)) (fun _ _ _ => trivial) (fun _ _ _ _ _ => trivial) (fun _ _ _ => trivial) (fun k w' _ _ _ => (clo_new k w').mono fun e w'' ⟨he, hd⟩ => ⟨he, trivial, by rw [hd.heap], hd.below _⟩))
  go_enter Try.func42, Try.ntmps42
  go_wp2_with (first | (go_at_call 62; refine (size_yes _ _ (by omega) (by omega)).mono ?_; rintro e w' ⟨rfl, rfl⟩) | (go_at_call 44; refine Hd.out.mono ?_; rintro e w1 ⟨r, rfl, hs, -, hb⟩; have Hs := Lib.hid hs; have Hb := Lib.hid hb; clear hs hb))
  go_ret2
  exact ⟨_, rfl, Hs.out, Hb.out⟩
set_option maxHeartbeats 1000000 in
theorem du_impl (n : Nat) (w : World) (n1 : 1 ≤ n) (n2 : n ≤ 52) :
    Calls Try.prog 18 #[.int .i64 (n : Int)] w fun e w' => ∃ r, e = .returned (.tuple #[r, .bool true]) ∧ Sw (Value.int .i64) 0 w' r (tab n (duG n)) w.heap.size w'.heap.size ∧ Below w.heap.size w w' := by
  have Hn := Lib.hid (new_impl_own n w n1 n2)
  go_enter Try.func18, Try.ntmps18
  go_wp2_with fail
  refine Hn.out.mono ?_
  rintro e w1 ⟨r, rfl, hs, hb⟩
  obtain ⟨b0, c0, rfl, hb0, hb1⟩ := hs.form (by omega)
  have Hs := Lib.hid hs
  have Hb := Lib.hid hb
  have hsz := hb.size
  clear hs hb
  have Hdb := Lib.hid (deckBy_st n 47 w.heap.size #[.pointer (some ⟨w1.heap.size, 0, none⟩)] (duG n) (Lf w.heap.size (w1.heap.size + 1) w1.heap.size n) (w1.alloc (.cells #[.slice (some ⟨b0, 0, none⟩) n c0] 22)) (by omega) (by simp; omega)
    (run_enter Try.func47 (by kernel_rfl) (by kernel_rfl))
    (fun w2 h2 h3 => lf_start (own_keep (Hs.out.alloc _) (h2.block b0 (by simp; omega))) ((h2.cell (by simp)).trans (World.cell?_alloc_at _ _ _ _ rfl)) ((h2.frozen (by simp)).trans (frozen_one _ _ _)) (by omega) (by omega) (by simpa using h3))
    (fun k j w2 v h => h.keep (by omega) (by simp [World.setCell]) (fun x hx _ => Below.heap_setCell _ _ _ _ (by simpa using hx)))
    (fun k w2 h => h.keep (by omega) (Nat.le_refl _) (fun _ _ _ => rfl))
    (fun k w2 hk hI _ => by
      have h := clo_du w.heap.size (w1.heap.size + 1) w1.heap.size n k w2 hk n2 hsz (by omega) hI
      rw [show (w1.alloc (.cells #[.slice (some ⟨b0, 0, none⟩) n c0] 22)).heap.size = w1.heap.size + 1 by simp]
      exact h))
  have Hal := Lib.hid (Hb.out.alloc hsz (.cells #[.slice (some ⟨b0, 0, none⟩) n c0] 22))
  go_wp2_with (go_at_call 44; refine Hdb.out.mono ?_; rintro e w2 ⟨r, rfl, hs, -, hb⟩; have Hr := Lib.hid hs; have Hb2 := Lib.hid hb; clear hs hb)
  go_ret2
  exact ⟨_, rfl, (Sw.of_owns Hr.out (tab_len _ _)).mono (by simp; omega) (Nat.le_refl _) (Nat.le_refl _), Hal.out.trans Hb2.out⟩

def ok_DownUnder (a : Int) : Bool := decide (1 ≤ a ∧ a ≤ 52)
def res_DownUnder (a : Int) : List Int := if 1 ≤ a ∧ a ≤ 52 then tab a.toNat (duG a.toNat) else []
theorem du_yes (a : Int) (h : 1 ≤ a ∧ a ≤ 52) : ok_DownUnder a = true ∧ res_DownUnder a = tab a.toNat (duG a.toNat) := ⟨decide_eq_true h, if_pos h⟩
theorem du_no (a : Int) (h : ¬ (1 ≤ a ∧ a ≤ 52)) : ok_DownUnder a = false ∧ res_DownUnder a = [] := ⟨decide_eq_false h, if_neg h⟩
theorem len_DownUnder (a : Int) : (res_DownUnder a).length ≤ 1048576 := by
  unfold res_DownUnder
  split
  · rw [tab_len]; omega
  · exact Nat.zero_le _
theorem spec_DownUnder (a : Int) (al : -9223372036854775808 ≤ a) (au : a ≤ 9223372036854775807) (w : World) : Calls Try.prog 17 #[.int .i64 a] w fun e w' => ∃ r, e = .returned (.tuple #[r, .bool (ok_DownUnder a)]) ∧ Sw (Value.int .i64) 0 w' r (res_DownUnder a) w.heap.size w'.heap.size ∧ Below w.heap.size w w' := by
  by_cases h : 1 ≤ a ∧ a ≤ 52
  · obtain ⟨e1, e2⟩ := du_yes a h
    rw [e1, e2]
    obtain ⟨n, rfl⟩ : ∃ n : Nat, a = n := ⟨a.toNat, by omega⟩
    rw [Int.toNat_natCast]
    exact du_spec n w (by omega) (by omega)
  · obtain ⟨e1, e2⟩ := du_no a h
    rw [e1, e2]
    clear e1 e2
    have N0 := Lib.hid (in_no a 1 52 w (by omega))
    clear h
    go_enter Try.func17, Try.ntmps17
    go_wp2_with fail
    refine N0.out.mono ?_
    rintro e w' ⟨rfl, rfl⟩
    go_wp2
    go_ret2
    exact ⟨_, rfl, Sw.nil _ _ _ _ _ _ _, Below.refl _ _⟩
theorem impl_DownUnder (a : Int) (al : -9223372036854775808 ≤ a) (au : a ≤ 9223372036854775807) (w : World) : Calls Try.prog 18 #[.int .i64 a] w fun e w' => ∃ r, e = .returned (.tuple #[r, .bool (ok_DownUnder a)]) ∧ Sw (Value.int .i64) 0 w' r (res_DownUnder a) w.heap.size w'.heap.size ∧ Below w.heap.size w w' := by
  by_cases h : 1 ≤ a ∧ a ≤ 52
  · obtain ⟨e1, e2⟩ := du_yes a h
    rw [e1, e2]
    obtain ⟨n, rfl⟩ : ∃ n : Nat, a = n := ⟨a.toNat, by omega⟩
    rw [Int.toNat_natCast]
    exact du_impl n w (by omega) (by omega)
  · obtain ⟨e1, e2⟩ := du_no a h
    rw [e1, e2]
    clear e1 e2
    have N0 := Lib.hid (new_impl_no a w (by omega))
    clear h
    go_enter Try.func18, Try.ntmps18
    go_wp2_with fail
    refine N0.out.mono ?_
    rintro e w' ⟨rfl, rfl⟩
    go_wp2
    go_ret2
    exact ⟨_, rfl, Sw.nil _ _ _ _ _ _ _, (Below.refl _ _).alloc (Nat.le_refl _) _⟩
end Go.Proofs.Ytkhjeijcpldojaa
