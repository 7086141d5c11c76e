/- Contracts: cut decks, in both texts. -/
import Derived.Test.YtolmhnekfokpdacDd
set_option linter.unusedVariables false
namespace Go.Proofs.Ytolmhnekfokpdac
open Go.RowKit

theorem cut_yes (fs : List Int) (a : Int) (h1 : deckB fs = true) (h2 : 0 ≤ a) (h3 : a ≤ fs.length) : ok_CutDeck fs a = true ∧ res_CutDeck fs a = tab fs.length (cutG fs a) := by
  unfold ok_CutDeck res_CutDeck; rw [h1, decide_eq_true h2, decide_eq_true h3, if_pos ⟨rfl, h2, h3⟩]; exact ⟨rfl, rfl⟩
theorem cut_no (fs : List Int) (a : Int) (h : ¬ (deckB fs = true ∧ 0 ≤ a ∧ a ≤ fs.length)) : ok_CutDeck fs a = false ∧ res_CutDeck fs a = [] := by
  unfold ok_CutDeck res_CutDeck; rw [if_neg h]; refine ⟨?_, rfl⟩
  rw [Bool.eq_false_iff]; intro h'; simp only [Bool.and_eq_true, decide_eq_true_eq] at h'; exact h h'
theorem len_CutDeck (fs : List Int) (a : Int) : (res_CutDeck fs a).length ≤ 1048576 := by
  unfold res_CutDeck
  split
  · rename_i h; rw [tab_len]; have := (deckB_len h.1).2.1; omega
  · exact Nat.zero_le _
theorem clo_cut (fs : List Int) (v : Value) (b1 b2 k a n : Nat) (w : World) (hfn : fs.length = n) (hk : k < n) (ha : a ≤ n) (hn : n ≤ 1048576)
    (c1 : w.cell? ⟨b1, 0, none⟩ = some v) (c2 : w.cell? ⟨b2, 0, none⟩ = some (.int .i64 (a : Int))) (hs : Sl (Value.int .i64) 0 w v fs) :
    Calls Try.prog 95 #[.int .i64 (k : Int), .pointer (some ⟨b1, 0, none⟩), .pointer (some ⟨b2, 0, none⟩)] w fun e w' => e = .returned (.int .i64 (cutG fs (a : Int) k)) ∧ Drawn w w' := by
  obtain ⟨p, cap, rfl, hf⟩ := hs
  unfold cutG
  rw [hfn] at hf c1 ⊢
  clear hfn
  obtain ⟨hcap, b, off, rfl, hbs, hc⟩ := hf (by omega)
  have hlt : (k + a) % n < n := Nat.mod_lt _ (by omega)
  have c3 := hc ((k + a) % n) hlt
  rw [Int.toNat_natCast]
  clear hc hf
  generalize fs.getD ((k + a) % n) 0 = z at *
  obtain ⟨S, hS⟩ : ∃ S : Int, S = (k : Int) + (a : Int) := ⟨_, rfl⟩
  have hw1 : IntKind.i64.wrap ((k : Int) + (a : Int)) = S := by rw [hS]; exact IntWalk.i64_in _ (by omega)
  have hw2 : S.tmod (n : Int) = (((k + a) % n : Nat) : Int) := by
    rw [hS, Int.tmod_eq_emod_of_nonneg (by omega)]
    exact (by rw [Int.natCast_emod, Int.natCast_add] : ((k : Int) + (a : Int)) % (n : Int) = (((k + a) % n : Nat) : Int))
  clear hS
  generalize (k + a) % n = m at *
  go_enter Try.func95, Try.ntmps95
  go_wp2
  go_quiet (fail)
  go_wp2
  go_ret
  exact ⟨rfl, _, rfl⟩

set_option maxRecDepth 100000 in
set_option maxHeartbeats 1000000 in
theorem cut_impl_yes (fs : List Int) (v : Value) (a : Nat) (w : World) (hn : fs.length ≤ 1048576) (h : Sl (Value.int .i64) 0 w v fs) (hd : deckB fs = true) (ha : a ≤ fs.length) :
    Calls Try.prog 32 #[v, .int .i64 (a : Int)] w fun e w' => ∃ r, e = .returned (.tuple #[r, .bool true]) ∧ Sw (Value.int .i64) 0 w' r (tab fs.length (cutG fs (a : Int))) w.heap.size w'.heap.size ∧ Below w.heap.size w w' := by
  have Hs := Lib.hid h
  obtain ⟨l1, l2, _⟩ := deckB_len hd
  obtain ⟨p, cap, rfl, hf⟩ := h
  clear hf
  have hW : Below w.heap.size w ((w.alloc (.cells #[.slice p fs.length cap] 22)).alloc (.cells #[.int .i64 (a : Int)] 2)) := ((Below.refl _ w).alloc (Nat.le_refl _) _).alloc (by simp) _
  have HW := Lib.hid hW
  clear hW
  have Hd := Lib.hid (deckI_yes fs _ _ hn (Hs.out.later HW.out) hd)
  clear hd
  go_enter Try.func32, Try.ntmps32
  go_wp2_with fail
  refine Hd.out.mono ?_
  rintro e w1 ⟨rfl, hb⟩
  have Hb := Lib.hid hb
  have c2 : w1.cell? ⟨w.heap.size + 1, 0, none⟩ = some (.int .i64 (a : Int)) := cell_keep hb (World.cell?_alloc_at _ _ _ _ (by simp))
  have c1 : w1.cell? ⟨w.heap.size, 0, none⟩ = some (.slice p fs.length cap) := cell_keep hb ((World.cell?_alloc_past _ _ _ (by simp)).trans (World.cell?_alloc_at _ _ _ _ rfl))
  have Hbel := Lib.hid (HW.out.trans (hb.mono (by simp; omega)))
  have Hdb := Lib.hid (deckBy_any fs.length 95 #[.pointer (some ⟨w.heap.size, 0, none⟩), .pointer (some ⟨w.heap.size + 1, 0, none⟩)] (cutG fs (a : Int)) w1 hn
    (run_enter Try.func95 (by kernel_rfl) (by kernel_rfl))
    (fun k w' hk hb' => clo_cut fs (.slice p fs.length cap) w.heap.size (w.heap.size + 1) k a fs.length w' rfl hk ha hn (cell_keep hb' c1) (cell_keep hb' c2) (Hs.out.later (Hbel.out.trans (hb'.mono Hbel.out.size)))))
  clear hb
  go_wp2_with (go_at_call 92; refine Hdb.out.mono ?_; rintro e w3 ⟨r, rfl, hs, hb⟩; have Hr := Lib.hid hs; have Hb3 := Lib.hid hb; clear hs hb)
  go_ret2
  exact ⟨_, rfl, Hr.out.mono Hbel.out.size (Nat.le_refl _) (Nat.le_refl _), Hbel.out.trans (Hb3.out.mono Hbel.out.size)⟩
theorem impl_CutDeck (fs : List Int) (v : Value) (a : Int) (al : -9223372036854775808 ≤ a) (au : a ≤ 9223372036854775807) (w : World) (hn : fs.length ≤ 1048576) (h : Sl (Value.int .i64) 0 w v fs) :
    Calls Try.prog 32 #[v, .int .i64 a] w fun e w' => ∃ r, e = .returned (.tuple #[r, .bool (ok_CutDeck fs a)]) ∧ Sw (Value.int .i64) 0 w' r (res_CutDeck fs a) w.heap.size w'.heap.size ∧ Below w.heap.size w w' := by
  by_cases h2 : deckB fs = true ∧ 0 ≤ a ∧ a ≤ fs.length
  · obtain ⟨e1, e2⟩ := cut_yes fs a h2.1 h2.2.1 h2.2.2
    rw [e1, e2]
    obtain ⟨n, rfl⟩ : ∃ n : Nat, a = n := ⟨a.toNat, by omega⟩
    exact cut_impl_yes fs v n w hn h h2.1 (by omega)
  · obtain ⟨e1, e2⟩ := cut_no fs a h2
    rw [e1, e2]
    have Hs := Lib.hid h
    obtain ⟨p, cap, rfl, hf⟩ := h
    clear hf
    have hW : Below w.heap.size w ((w.alloc (.cells #[.slice p fs.length cap] 22)).alloc (.cells #[.int .i64 a] 2)) := ((Below.refl _ w).alloc (Nat.le_refl _) _).alloc (by simp) _
    have HW := Lib.hid hW
    clear hW
    cases hd : deckB fs
    · have Hd := Lib.hid (deckI_no fs _ _ hn (Hs.out.later HW.out) hd)
      clear hd e1 e2 h2
      go_enter Try.func32, Try.ntmps32
      go_wp2_with (first | (go_at_call 94; refine Hd.out.mono ?_; rintro e w1 ⟨rfl, hb⟩; have Hb := Lib.hid hb; clear hb))
      go_ret2
      exact ⟨_, rfl, Sw.nil _ _ _ _ _ _ _, HW.out.trans (Hb.out.mono (by simp; omega))⟩
    · have Hd := Lib.hid (deckI_yes fs _ _ hn (Hs.out.later HW.out) hd)
      by_cases h0 : a < 0
      · clear hd e1 e2 h2
        go_enter Try.func32, Try.ntmps32
        go_wp2_with fail
        refine Hd.out.mono ?_
        rintro e w1 ⟨rfl, hb⟩
        have Hbel := Lib.hid (HW.out.trans (hb.mono (by simp; omega)))
        have c2 : w1.cell? ⟨w.heap.size + 1, 0, none⟩ = some (.int .i64 a) := cell_keep hb (World.cell?_alloc_at _ _ _ _ (by simp))
        have c1 : w1.cell? ⟨w.heap.size, 0, none⟩ = some (.slice p fs.length cap) := cell_keep hb ((World.cell?_alloc_past _ _ _ (by simp)).trans (World.cell?_alloc_at _ _ _ _ rfl))
        clear hb
        go_wp2
        go_ret2
        exact ⟨_, rfl, Sw.nil _ _ _ _ _ _ _, Hbel.out⟩
      · have h3 : (fs.length : Int) < a := by
          by_cases h4 : a ≤ fs.length
          · exact absurd ⟨hd, by omega, h4⟩ h2
          · omega
        clear hd e1 e2 h2
        go_enter Try.func32, Try.ntmps32
        go_wp2_with fail
        refine Hd.out.mono ?_
        rintro e w1 ⟨rfl, hb⟩
        have Hbel := Lib.hid (HW.out.trans (hb.mono (by simp; omega)))
        have c2 : w1.cell? ⟨w.heap.size + 1, 0, none⟩ = some (.int .i64 a) := cell_keep hb (World.cell?_alloc_at _ _ _ _ (by simp))
        have c1 : w1.cell? ⟨w.heap.size, 0, none⟩ = some (.slice p fs.length cap) := cell_keep hb ((World.cell?_alloc_past _ _ _ (by simp)).trans (World.cell?_alloc_at _ _ _ _ rfl))
        clear hb
        go_wp2
        go_ret2
        exact ⟨_, rfl, Sw.nil _ _ _ _ _ _ _, Hbel.out⟩
end Go.Proofs.Ytolmhnekfokpdac
