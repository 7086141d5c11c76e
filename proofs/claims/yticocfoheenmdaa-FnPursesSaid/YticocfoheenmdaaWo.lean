/- Contracts: StreakCount, StreakCounts, in both texts. -/
import Derived.Test.YticocfoheenmdaaWm
import Derived.Test.YticocfoheenmdaaWn
set_option linter.unusedVariables false
namespace Go.Proofs.Yticocfoheenmdaa
open Go.RowKit Go.Maps

theorem ret2W {a b : Int} {c : Bool} (h : a = b) : Ending.returned (.tuple #[.int .i64 a, .bool c]) = .returned (.tuple #[.int .i64 b, .bool c]) := by rw [h]
theorem pwI_pow (k : Nat) : pwI 2 k = 2 ^ k := by
  induction k with
  | zero => rfl
  | succ k ih => show pwI 2 k * 2 = _; rw [ih, Int.pow_succ]
def okSC (a b : Int) : Prop := (1 ≤ a ∧ a ≤ 60) ∧ (1 ≤ b ∧ b ≤ a)
instance (a b : Int) : Decidable (okSC a b) := by unfold okSC; infer_instance
def ok_StreakCount (a b : Int) : Bool := decide (okSC a b)
def res_StreakCount (a b : Int) : Int := if okSC a b then pwI 2 a.toNat - fewer a.toNat b.toNat else 0
theorem sc_impl_yes (T n : Nat) (w : World) (n1 : 1 ≤ n) (n2 : n ≤ T) (t1 : 1 ≤ T) (hT : T ≤ 60) :
    Calls Try.prog 15 #[.int .i64 (T : Int), .int .i64 (n : Int)] w fun e w' => e = .returned (.tuple #[.int .i64 (pwI 2 T - fewer T n), .bool true]) ∧ Below w.heap.size w w' := by
  have H0 := Lib.hid (fun z => within_yes (T : Int) 1 60 z (by omega) (by omega))
  have H1 := Lib.hid (fun z => within_yes (n : Int) 1 (T : Int) z (by omega) (by omega))
  have HF := Lib.hid (fun z => streak_any T n z n1 (by omega) hT)
  generalize pwI 2 T - fewer T n = F at *
  go_enter Try.func15, Try.ntmps15
  go_wp2_with fail
  refine (H0.out _).mono ?_
  rintro e w' ⟨rfl, rfl⟩
  go_wp2_with fail
  refine (H1.out _).mono ?_
  rintro e w' ⟨rfl, rfl⟩
  go_wp2_with fail
  refine (HF.out _).mono ?_
  rintro e w3 ⟨rfl, hb3⟩
  have Hb3 := Lib.hid hb3
  clear hb3
  go_wp2
  go_ret2
  exact ⟨rfl, Hb3.out⟩
theorem sc_impl_no (a b : Int) (w : World) (h : ¬ okSC a b) :
    Calls Try.prog 15 #[.int .i64 a, .int .i64 b] w fun e w' => e = .returned (.tuple #[.int .i64 0, .bool false]) ∧ Below w.heap.size w w' := by
  unfold okSC at h
  by_cases g : 1 ≤ a ∧ a ≤ 60
  · have H0 := Lib.hid (fun z => within_yes a 1 60 z g.1 g.2)
    have H1 := Lib.hid (fun z => within_no b 1 a z (by
      by_cases g2 : 1 ≤ b ∧ b ≤ a
      · exact absurd ⟨g, g2⟩ h
      · omega))
    clear h g
    go_enter Try.func15, Try.ntmps15
    go_wp2_with fail
    refine (H0.out _).mono ?_
    rintro e w' ⟨rfl, rfl⟩
    go_wp2_with fail
    refine (H1.out _).mono ?_
    rintro e w' ⟨rfl, rfl⟩
    go_wp2
    go_ret2
    exact ⟨rfl, Below.refl _ _⟩
  · have H0 := Lib.hid (fun z => within_no a 1 60 z (by omega))
    clear h g
    go_enter Try.func15, Try.ntmps15
    go_wp2_with fail
    refine (H0.out _).mono ?_
    rintro e w' ⟨rfl, rfl⟩
    go_wp2
    go_ret2
    exact ⟨rfl, Below.refl _ _⟩
theorem impl_StreakCount (a : Int) (al : -9223372036854775808 ≤ a) (au : a ≤ 9223372036854775807) (b : Int) (bl : -9223372036854775808 ≤ b) (bu : b ≤ 9223372036854775807) (w : World) :
    Calls Try.prog 15 #[.int .i64 a, .int .i64 b] w fun e w' => e = .returned (.tuple #[.int .i64 (res_StreakCount a b), .bool (ok_StreakCount a b)]) ∧ Below w.heap.size w w' := by
  unfold ok_StreakCount res_StreakCount
  by_cases h : okSC a b
  · rw [if_pos h, decide_eq_true h]
    obtain ⟨⟨x0, y0⟩, x1, y1⟩ := h
    obtain ⟨T, rfl⟩ : ∃ m : Nat, a = m := ⟨a.toNat, by omega⟩
    obtain ⟨n, rfl⟩ : ∃ m : Nat, b = m := ⟨b.toNat, by omega⟩
    rw [Int.toNat_natCast, Int.toNat_natCast]
    exact sc_impl_yes T n w (by omega) (by omega) (by omega) (by omega)
  · rw [if_neg h, decide_eq_false h]
    exact sc_impl_no a b w h

def strG (T : Nat) (j : Nat) : Int := fewer T (j + 1) - fewer T j
def ok_StreakCounts (a : Int) : Bool := decide (1 ≤ a ∧ a ≤ 60)
def res_StreakCounts (a : Int) : List Int := if 1 ≤ a ∧ a ≤ 60 then tab (a.toNat + 1) (strG a.toNat) else []
theorem len_StreakCounts (a : Int) : (res_StreakCounts a).length ≤ 1048576 := by
  unfold res_StreakCounts
  split
  · rw [tab_len]; omega
  · simp
theorem own_laterW {w w' : World} {base : Nat} {e : TypeId} {size : Nat} {v : Value} {n : Nat} {xs : List Value} (h : w.ownsRow base e size v n xs) (hb : Below w.heap.size w w') : w'.ownsRow base e size v n xs :=
  h.kept (row := none) ⟨hb.os, hb.tape, hb.output, hb.size, fun k hk _ => hb.block k hk⟩ (by cases v.ownBlock <;> simp)
theorem own_snocS {w : World} {base : Nat} {e : TypeId} {v : Value} {k : Nat} {g : Nat → Int} (h : w.ownsRow base e 1 v (k + 1) ((tab k g).map (Value.int .i64) ++ [.int .i64 (g k)])) : w.ownsRow base e 1 v (k + 1) ((tab (k + 1) g).map (Value.int .i64)) := by
  rw [tab_succ, List.map_append]; exact h
set_option maxRecDepth 100000 in
set_option maxHeartbeats 2000000 in
theorem scs_impl_yes (T : Nat) (w : World) (t1 : 1 ≤ T) (hT : T ≤ 60) :
    Calls Try.prog 16 #[.int .i64 (T : Int)] w fun e w' => ∃ r, e = .returned (.tuple #[r, .bool true]) ∧ Sw (Value.int .i64) 0 w' r (tab (T + 1) (strG T)) w.heap.size w'.heap.size ∧ Below w.heap.size w w' := by
  obtain ⟨i0, hi, hz0, hz1, hz2⟩ := info_parts (show (Try.prog.info? 2).map (fun i => (i.zero, i.size, i.bytes)) = some (some (.int .i64 0), 1, 8) by kernel_rfl)
  have H0 := Lib.hid (within_yes (T : Int) 1 60 w (by omega) (by omega))
  have HF := Lib.hid (fun k z (h1 : 1 ≤ k) (hk : k ≤ T) => streak_any T k z h1 (by omega) hT)
  have HP := Lib.hid (fun z => powerQ_any 2 T z (by omega) (fun k hk => by have := pw2_bd k (by omega); omega))
  have Hbd : Hid (∀ k, 0 ≤ fewer T k ∧ fewer T k ≤ pwI 2 T) := Lib.hid (fun k => fewer_bd T k)
  have Hpb : Hid (0 ≤ pwI 2 T ∧ pwI 2 T ≤ 2305843009213693952) := Lib.hid ⟨by have := (pw2_bd T (by omega)).1; omega, (pw2_bd T (by omega)).2⟩
  have Hall : Hid (pwI 2 T - fewer T (T + 1) = 0) := Lib.hid (by rw [fewer_all]; omega)
  have Hz : Hid (fewer T 0 = 0) := Lib.hid (fewer_none T)
  have HG := Lib.hid (fun k => (show strG T k = fewer T (k + 1) - fewer T k from rfl))
  generalize pwI 2 T = P at *
  obtain ⟨n, hn⟩ : ∃ n, n = T + 1 := ⟨_, rfl⟩
  have hn1 : (T : Int) + 1 = (n : Int) := by omega
  have hn2 : n ≤ 61 := by omega
  have Hn := Lib.hid hn
  rw [← hn]
  clear hn
  go_enter Try.func16, Try.ntmps16
  go_wp2_with fail
  refine H0.out.mono ?_
  rintro e w' ⟨rfl, rfl⟩
  go_wp2_with (at_make; refine wpList_make_full _ rfl _ _ 31 rfl w.heap.size 2 i0 (.int .i64 0) 1 (by kernel_rfl) hi hz0 hz1 .i64 .i64 n n n rfl rfl rfl rfl (by rw [hz2]; omega) (by unfold maxLen; omega) (Nat.le_refl _) ?_; intro w2 hrow hgrow)
  have hz2' := hgrow.size
  have hbel : Below w.heap.size w w2 := (Below.refl _ _).grown hgrow (Nat.le_refl _) (by simp)
  rw [zeros_tabW] at hrow
  have hN0 := Sw.of_owns (d := 0) hrow (tab_len _ _)
  rw [tab_congr (h := fun j => if T < j then strG T j else 0) (fun j hj => by rw [if_neg (by have := Hn.out; omega)])] at hN0
  have HN0 := Lib.hid hN0
  have Hbel := Lib.hid hbel
  clear hrow hgrow hbel hN0
  go_wp2
  go_loopw [5, 6] (fun lo i wr => ∃ k : Nat, k ≤ T ∧ i = .int .i64 (k : Int) ∧ lo = .int .i64 (P - fewer T (k + 1)) ∧ Hid (Sw (Value.int .i64) 0 wr (.slice (some ⟨w.heap.size, 0, none⟩) n n) (tab n fun j => if k < j then strG T j else 0) w.heap.size w2.heap.size) ∧ w2.heap.size ≤ wr.heap.size ∧ Hid (Below w.heap.size w wr)) (fun _ i _ => (intOf i).toNat)
  case atStart => exact ⟨T, Nat.le_refl _, rfl, by rw [Hall.out], HN0, Nat.le_refl _, Hbel⟩
  case round =>
    obtain ⟨k, hk, rfl, rfl, hS, hw2, hb⟩ := hrel
    have hsz := hb.out.size
    obtain ⟨p0, p1⟩ := Hpb.out
    obtain ⟨b0, b1⟩ := Hbd.out (k + 1)
    by_cases hlt : 0 < k
    · obtain ⟨a0, a1⟩ := Hbd.out k
      have HC := Lib.hid (HF.out k wr hlt hk)
      have hG := HG.out k
      have HG2 := Lib.hid hG
      have Hk1 : Hid (k - 1 + 1 = k) := Lib.hid (by omega)
      have HA : Hid (fewer T (k - 1 + 1) = fewer T k) := Lib.hid (by rw [Hk1.out])
      clear hG
      generalize fewer T k = A at *
      generalize fewer T (k + 1) = B at *
      have d0 : decide ((0 : Int) < (k : Int)) = true := decide_eq_true (by omega)
      go_wp2_with fail
      refine HC.out.mono ?_
      rintro e w3 ⟨rfl, hb3⟩
      have hS3 := hS.out.later hb3
      have hz3 := hb3.size
      have Hb3 := Lib.hid (hb.out.trans (hb3.mono hsz))
      obtain ⟨b2, o2, e2, -, -, cS, fS⟩ := hS3.open' k (by rw [tab_len]; have := Hn.out; omega)
      cases e2
      rw [tab_get _ _ _ (by have := Hn.out; omega), if_neg (by omega), Nat.zero_add] at cS
      rw [Nat.zero_add] at fS
      have hkn : k < n := by omega
      have HS4 : Hid (Sw (Value.int .i64) 0 (w3.setCell ⟨w.heap.size, k, none⟩ (.int .i64 (P - A - (P - B)))) (.slice (some ⟨w.heap.size, 0, none⟩) n n) (tab n fun j => if k - 1 < j then strG T j else 0) w.heap.size w2.heap.size) := Lib.hid (by
        have h1 := hS3.store k (by rw [tab_len]; exact hkn) (P - A - (P - B))
        rw [tab_setW, Nat.zero_add, tab_congr (h := fun j => if k - 1 < j then strG T j else 0) (fun j _ => by
          by_cases e1 : j = k
          · subst e1; rw [if_pos rfl, if_pos (by omega), HG2.out]; omega
          · rw [if_neg e1]
            by_cases e2 : k < j
            · rw [if_pos e2, if_pos (by omega)]
            · rw [if_neg e2, if_neg (by omega)])] at h1
        exact h1)
      clear hb3 hS3 HG2
      go_wp2
      go_roundw
      case rel => exact ⟨k - 1, by omega, by rw [show ((k - 1 : Nat) : Int) = (k : Int) - 1 by omega], by rw [HA.out], HS4, by simpa using Nat.le_trans hw2 hz3, Lib.hid (Hb3.out.setCell (Nat.le_refl _) _)⟩
      case measure => simp [intOf]; omega
    · obtain rfl : k = 0 := by omega
      have hP2 := Lib.hid (HP.out wr)
      have hG := HG.out 0
      have hz := Hz.out
      rw [hz] at hG
      have HG2 := Lib.hid hG
      clear hG hz
      generalize fewer T (0 + 1) = B at *
      have d0 : decide ((0 : Int) < ((0 : Nat) : Int)) = false := rfl
      go_wp2_with fail
      refine hP2.out.mono ?_
      rintro e w3 ⟨rfl, hb3⟩
      have hS3 := hS.out.later hb3
      have hz3 := hb3.size
      have Hb3 := Lib.hid (hb.out.trans (hb3.mono hsz))
      obtain ⟨b2, o2, e2, -, -, cS, fS⟩ := hS3.open' 0 (by rw [tab_len]; omega)
      cases e2
      rw [tab_get _ _ _ (by omega), if_neg (by omega), Nat.zero_add] at cS
      rw [Nat.zero_add] at fS
      have HS4 : Hid (Sw (Value.int .i64) 0 (w3.setCell ⟨w.heap.size, 0, none⟩ (.int .i64 (P - (P - B)))) (.slice (some ⟨w.heap.size, 0, none⟩) n n) (tab n (strG T)) w.heap.size w2.heap.size) := Lib.hid (by
        have h1 := hS3.store 0 (by rw [tab_len]; omega) (P - (P - B))
        rw [tab_setW, Nat.zero_add, tab_congr (h := strG T) (fun j _ => by
          by_cases e1 : j = 0
          · subst e1; rw [if_pos rfl, HG2.out]; omega
          · rw [if_neg e1, if_pos (by omega)])] at h1
        exact h1)
      clear hb3 hS3 HG2
      go_wp2
      go_ret2
      exact ⟨_, rfl, HS4.out.mono (Nat.le_refl _) (by simpa using Nat.le_trans hw2 hz3) (Nat.le_refl _), Hb3.out.setCell (Nat.le_refl _) _⟩
theorem scs_impl_no (a : Int) (w : World) (h : ¬ (1 ≤ a ∧ a ≤ 60)) :
    Calls Try.prog 16 #[.int .i64 a] w fun e w' => e = .returned (.tuple #[.slice none 0 0, .bool false]) ∧ Below w.heap.size w w' := by
  have H0 := Lib.hid (fun z => within_no a 1 60 z (by omega))
  clear h
  go_enter Try.func16, Try.ntmps16
  go_wp2_with fail
  refine (H0.out _).mono ?_
  rintro e w' ⟨rfl, rfl⟩
  go_wp2
  go_ret2
  exact ⟨rfl, Below.refl _ _⟩
theorem impl_StreakCounts (a : Int) (al : -9223372036854775808 ≤ a) (au : a ≤ 9223372036854775807) (w : World) :
    Calls Try.prog 16 #[.int .i64 a] w fun e w' => ∃ r, e = .returned (.tuple #[r, .bool (ok_StreakCounts a)]) ∧ Sw (Value.int .i64) 0 w' r (res_StreakCounts a) w.heap.size w'.heap.size ∧ Below w.heap.size w w' := by
  unfold ok_StreakCounts res_StreakCounts
  by_cases h : 1 ≤ a ∧ a ≤ 60
  · rw [if_pos h, decide_eq_true h]
    obtain ⟨T, rfl⟩ : ∃ m : Nat, a = m := ⟨a.toNat, by omega⟩
    rw [Int.toNat_natCast]
    exact scs_impl_yes T w (by omega) (by omega)
  · rw [if_neg h, decide_eq_false h]
    exact (scs_impl_no a w h).mono fun e w' ⟨he, hb⟩ => ⟨_, he, Sw.nil _ _ _ _ _ _ _, hb⟩
