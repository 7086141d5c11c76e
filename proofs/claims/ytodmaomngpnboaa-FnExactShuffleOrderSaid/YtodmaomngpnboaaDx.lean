/- Contracts: perfect shuffles, in both texts. -/
import Derived.Test.YtodmaomngpnboaaDd
import Derived.Deep.RegionLaw
import Derived.Deep.AppendLies
set_option linter.unusedVariables false
namespace Go.Proofs.Ytodmaomngpnboaa
open Go.RowKit

theorem perf_yes (fs : List Int) (b : Bool) (h1 : deckB fs = true) (h2 : fs.length % 2 = 0) : ok_PerfectShuffle fs b = true ∧ res_PerfectShuffle fs b = tab fs.length (perfG fs b) := by
  unfold ok_PerfectShuffle res_PerfectShuffle; rw [h1, decide_eq_true h2, if_pos ⟨rfl, h2⟩]; exact ⟨rfl, rfl⟩
theorem perf_no (fs : List Int) (b : Bool) (h : ¬ (deckB fs = true ∧ fs.length % 2 = 0)) : ok_PerfectShuffle fs b = false ∧ res_PerfectShuffle fs b = [] := by
  unfold ok_PerfectShuffle res_PerfectShuffle; rw [if_neg h]; refine ⟨?_, rfl⟩
  rw [Bool.eq_false_iff]; intro h'; simp only [Bool.and_eq_true, decide_eq_true_eq] at h'; exact h h'
theorem len_PerfectShuffle (fs : List Int) (b : Bool) : (res_PerfectShuffle fs b).length ≤ 1048576 := by
  unfold res_PerfectShuffle
  split
  · rename_i h; rw [tab_len]; have := (deckB_len h.1).2.1; omega
  · exact Nat.zero_le _
theorem perfG_hi (fs : List Int) (b : Bool) (p : Nat) (h : (decide (p % 2 = 1) != b) = true) : perfG fs b p = fs.getD (fs.length / 2 + p / 2) 0 := by unfold perfG; rw [if_pos h]
theorem perfG_lo (fs : List Int) (b : Bool) (p : Nat) (h : (decide (p % 2 = 1) != b) = false) : perfG fs b p = fs.getD (p / 2) 0 := by unfold perfG; rw [if_neg (by rw [h]; exact Bool.false_ne_true)]
theorem clo_perf (fs : List Int) (v : Value) (b : Bool) (b1 b2 b3 k n : Nat) (w : World) (hfn : fs.length = n) (he : n % 2 = 0) (hk : k < n) (hn : n ≤ 1048576)
    (c1 : w.cell? ⟨b1, 0, none⟩ = some (.bool b)) (c2 : w.cell? ⟨b2, 0, none⟩ = some v) (c3 : w.cell? ⟨b3, 0, none⟩ = some (.int .i64 ((n : Int) / 2))) (hs : Sl (Value.int .i64) 0 w v fs) :
    Calls Try.prog 167 #[.int .i64 (k : Int), .pointer (some ⟨b1, 0, none⟩), .pointer (some ⟨b2, 0, none⟩), .pointer (some ⟨b3, 0, none⟩)] w fun e w' => e = .returned (.int .i64 (perfG fs b k)) ∧ Drawn w w' := by
  have h1 := perfG_hi fs b k
  have h2 := perfG_lo fs b k
  obtain ⟨p, cap, rfl, hf⟩ := hs
  rw [hfn] at hf c2 h1
  clear hfn
  obtain ⟨hcap, b0, off, rfl, hbs, hc⟩ := hf (by omega)
  by_cases ho : k % 2 = 1
  · have d : (((k : Int) % 2) == 1) = true := by simp; omega
    rw [decide_eq_true ho] at h1 h2
    cases b
    · rw [h1 rfl]
      have c4 := hc (n / 2 + k / 2) (by omega)
      clear hc hf h1 h2
      generalize fs.getD (n / 2 + k / 2) 0 = z at *
      go_enter Try.func167, Try.ntmps167
      go_wp2
      go_ret
      exact ⟨rfl, Drawn.refl _⟩
    · rw [h2 rfl]
      have c4 := hc (k / 2) (by omega)
      clear hc hf h1 h2
      generalize fs.getD (k / 2) 0 = z at *
      go_enter Try.func167, Try.ntmps167
      go_wp2
      go_ret
      exact ⟨rfl, Drawn.refl _⟩
  · have d : (((k : Int) % 2) == 1) = false := by simp; omega
    rw [decide_eq_false ho] at h1 h2
    cases b
    · rw [h2 rfl]
      have c4 := hc (k / 2) (by omega)
      clear hc hf h1 h2
      generalize fs.getD (k / 2) 0 = z at *
      go_enter Try.func167, Try.ntmps167
      go_wp2
      go_ret
      exact ⟨rfl, Drawn.refl _⟩
    · rw [h1 rfl]
      have c4 := hc (n / 2 + k / 2) (by omega)
      clear hc hf h1 h2
      generalize fs.getD (n / 2 + k / 2) 0 = z at *
      go_enter Try.func167, Try.ntmps167
      go_wp2
      go_ret
      exact ⟨rfl, Drawn.refl _⟩

set_option maxHeartbeats 1000000 in
theorem perf_impl_yes (fs : List Int) (v : Value) (b : Bool) (w : World) (hn : fs.length ≤ 1048576) (h : Sl (Value.int .i64) 0 w v fs) (hd : deckB fs = true) (he : fs.length % 2 = 0) :
    Calls Try.prog 123 #[v, .bool b] w fun e w' => ∃ r, e = .returned (.tuple #[r, .bool true]) ∧ Sw (Value.int .i64) 0 w' r (tab fs.length (perfG fs b)) w.heap.size w'.heap.size ∧ Below w.heap.size w w' := by
  have Hs := Lib.hid h
  obtain ⟨l1, l2, _⟩ := deckB_len hd
  obtain ⟨p, cap, rfl, hf⟩ := h
  clear hf
  have hW : Below w.heap.size w ((w.alloc (.cells #[.slice p fs.length cap] 22)).alloc (.cells #[.bool b] 4)) := ((Below.refl _ w).alloc (Nat.le_refl _) _).alloc (by simp) _
  have HW := Lib.hid hW
  clear hW
  have Hd := Lib.hid (deckI_yes fs _ _ hn (Hs.out.later HW.out) hd)
  have de : (((fs.length : Int) % 2) != 0) = false := by simp; omega
  have He := Lib.hid he
  clear hd he
  go_enter Try.func123, Try.ntmps123
  go_wp2_with fail
  refine Hd.out.mono ?_
  rintro e w1 ⟨rfl, hb⟩
  have Hb := Lib.hid hb
  have hz : w.heap.size + 1 < w1.heap.size := by have := hb.size; simp at this; omega
  have c2 : w1.cell? ⟨w.heap.size + 1, 0, none⟩ = some (.bool b) := cell_keep hb (World.cell?_alloc_at _ _ _ _ (by simp))
  have c1 : w1.cell? ⟨w.heap.size, 0, none⟩ = some (.slice p fs.length cap) := cell_keep hb ((World.cell?_alloc_past _ _ _ (by simp)).trans (World.cell?_alloc_at _ _ _ _ rfl))
  have Hbel := Lib.hid ((HW.out.trans (hb.mono (by simp; omega))).alloc (by omega) (.cells #[.int .i64 ((fs.length : Int) / 2)] 3))
  have Hdb := Lib.hid (deckBy_any fs.length 167 #[.pointer (some ⟨w.heap.size + 1, 0, none⟩), .pointer (some ⟨w.heap.size, 0, none⟩), .pointer (some ⟨w1.heap.size, 0, none⟩)] (perfG fs b) (w1.alloc (.cells #[.int .i64 ((fs.length : Int) / 2)] 3)) hn
    (run_enter Try.func167 (by kernel_rfl) (by kernel_rfl))
    (fun k w' hk hb' => clo_perf fs (.slice p fs.length cap) b (w.heap.size + 1) w.heap.size w1.heap.size k fs.length w' rfl He.out hk hn (cell_keep hb' ((World.cell?_alloc_past _ _ _ hz).trans c2)) (cell_keep hb' ((World.cell?_alloc_past _ _ _ (by omega)).trans c1)) (cell_keep hb' (World.cell?_alloc_at _ _ _ _ rfl)) (Hs.out.later (Hbel.out.trans (hb'.mono (by simp; omega))))))
  have hz0 : w.heap.size < w1.heap.size := by omega
  clear hb
  go_wp2_with (go_at_call 165; refine Hdb.out.mono ?_; rintro e w3 ⟨r, rfl, hs, hb⟩; have Hr := Lib.hid hs; have Hb3 := Lib.hid hb; clear hs hb)
  go_ret2
  exact ⟨_, rfl, Hr.out.mono (by simp; omega) (Nat.le_refl _) (Nat.le_refl _), Hbel.out.trans (Hb3.out.mono (by simp; omega))⟩
theorem impl_PerfectShuffle (fs : List Int) (v : Value) (b : Bool) (w : World) (hn : fs.length ≤ 1048576) (h : Sl (Value.int .i64) 0 w v fs) :
    Calls Try.prog 123 #[v, .bool b] w fun e w' => ∃ r, e = .returned (.tuple #[r, .bool (ok_PerfectShuffle fs b)]) ∧ Sw (Value.int .i64) 0 w' r (res_PerfectShuffle fs b) w.heap.size w'.heap.size ∧ Below w.heap.size w w' := by
  by_cases h2 : deckB fs = true ∧ fs.length % 2 = 0
  · obtain ⟨e1, e2⟩ := perf_yes fs b h2.1 h2.2
    rw [e1, e2]
    exact perf_impl_yes fs v b w hn h h2.1 h2.2
  · obtain ⟨e1, e2⟩ := perf_no fs b h2
    rw [e1, e2]
    have Hs := Lib.hid h
    obtain ⟨p, cap, rfl, hf⟩ := h
    clear hf
    have hW : Below w.heap.size w ((w.alloc (.cells #[.slice p fs.length cap] 22)).alloc (.cells #[.bool b] 4)) := ((Below.refl _ w).alloc (Nat.le_refl _) _).alloc (by simp) _
    have HW := Lib.hid hW
    clear hW
    cases hd : deckB fs
    · have Hd := Lib.hid (deckI_no fs _ _ hn (Hs.out.later HW.out) hd)
      clear hd e1 e2 h2
      go_enter Try.func123, Try.ntmps123
      go_wp2_with (first | (go_at_call 102; refine Hd.out.mono ?_; rintro e w1 ⟨rfl, hb⟩; have Hb := Lib.hid hb; clear hb))
      go_ret2
      exact ⟨_, rfl, Sw.nil _ _ _ _ _ _ _, HW.out.trans (Hb.out.mono (by simp; omega))⟩
    · have Hd := Lib.hid (deckI_yes fs _ _ hn (Hs.out.later HW.out) hd)
      have ho : ¬ fs.length % 2 = 0 := fun e => h2 ⟨hd, e⟩
      have de : (((fs.length : Int) % 2) != 0) = true := by simp; omega
      clear hd e1 e2 h2 ho
      go_enter Try.func123, Try.ntmps123
      go_wp2_with fail
      refine Hd.out.mono ?_
      rintro e w1 ⟨rfl, hb⟩
      have Hbel := Lib.hid (HW.out.trans (hb.mono (by simp; omega)))
      have c1 : w1.cell? ⟨w.heap.size, 0, none⟩ = some (.slice p fs.length cap) := cell_keep hb ((World.cell?_alloc_past _ _ _ (by simp)).trans (World.cell?_alloc_at _ _ _ _ rfl))
      clear hb
      go_wp2
      go_ret2
      exact ⟨_, rfl, Sw.nil _ _ _ _ _ _ _, Hbel.out⟩
end Go.Proofs.Ytodmaomngpnboaa
