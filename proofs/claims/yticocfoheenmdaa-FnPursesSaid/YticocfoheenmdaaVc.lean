/- Contracts: kinds among rows of coupons, in both texts. -/
import Derived.Test.YticocfoheenmdaaVb
set_option linter.unusedVariables false
namespace Go.Proofs.Yticocfoheenmdaa
open Go.RowKit Go.Maps

/-- how many rows of t coupons have k kinds -/
def cpF (K : Int) : Nat → Int → Int
  | 0, k => if k = 0 then 1 else 0
  | t + 1, k => k * cpF K t k + (K - (k - 1)) * cpF K t (k - 1)
theorem cp_zero (K : Int) (h : 1 ≤ K) : ∀ (t : Nat) (k : Int), (k < 0 ∨ K < k ∨ (t : Int) < k) → cpF K t k = 0
  | 0, k, hk => by unfold cpF; rw [if_neg (by omega)]
  | t + 1, k, hk => by
    unfold cpF
    rw [cp_zero K h t k (by omega)]
    by_cases e : k - 1 = K
    · rw [e, Int.sub_self, Int.mul_zero, Int.zero_mul]; rfl
    · rw [cp_zero K h t (k - 1) (by omega), Int.mul_zero, Int.mul_zero]; rfl
theorem cp_bd (K : Int) (h : 1 ≤ K) (t : Nat) (k : Int) : 0 ≤ cpF K t k ∧ cpF K t k ≤ pwI (K + 1) t := by
  induction t generalizing k with
  | zero => unfold cpF pwI; split <;> omega
  | succ t ih =>
    have hp : 0 ≤ pwI (K + 1) (t + 1) := Int.le_trans (ih 0).1 (Int.le_trans (ih 0).2 (by
      show pwI (K + 1) t ≤ pwI (K + 1) t * (K + 1)
      have h1 := Int.le_trans (ih 0).1 (ih 0).2
      have := Int.mul_le_mul_of_nonneg_left (show (1 : Int) ≤ K + 1 by omega) h1
      omega))
    by_cases hz : k < 0 ∨ K < k
    · rw [cp_zero K h (t + 1) k (by omega)]; omega
    · have h1 := ih k
      have h2 := ih (k - 1)
      have m1 := Int.mul_nonneg (show 0 ≤ k by omega) h1.1
      have m2 := Int.mul_nonneg (show 0 ≤ K - (k - 1) by omega) h2.1
      have m3 := Int.mul_le_mul_of_nonneg_left h1.2 (show 0 ≤ k by omega)
      have m4 := Int.mul_le_mul_of_nonneg_left h2.2 (show 0 ≤ K - (k - 1) by omega)
      have e : pwI (K + 1) (t + 1) = k * pwI (K + 1) t + (K - (k - 1)) * pwI (K + 1) t := by
        show pwI (K + 1) t * (K + 1) = _
        rw [← Int.add_mul, Int.mul_comm]; congr 1; omega
      show 0 ≤ k * cpF K t k + (K - (k - 1)) * cpF K t (k - 1) ∧ k * cpF K t k + (K - (k - 1)) * cpF K t (k - 1) ≤ _
      rw [e]; omega
theorem pwI_11 : ∀ t, t < 17 → pwI 11 t ≤ 45949729863572161 := by decide +kernel
theorem pwI_mono2 (x y : Int) (h0 : 0 ≤ x) (h : x ≤ y) (k : Nat) : 0 ≤ pwI x k ∧ pwI x k ≤ pwI y k := by
  induction k with
  | zero => exact ⟨by show (0 : Int) ≤ 1; omega, Int.le_refl _⟩
  | succ k ih => exact ⟨Int.mul_nonneg ih.1 h0, Int.mul_le_mul ih.2 h h0 (Int.le_trans ih.1 ih.2)⟩
theorem cp_big (K : Int) (h : 1 ≤ K) (h10 : K ≤ 10) (t : Nat) (ht : t < 17) (k : Int) : 0 ≤ cpF K t k ∧ cpF K t k ≤ 45949729863572161 := by
  have h1 := cp_bd K h t k
  have h2 := (pwI_mono2 (K + 1) 11 (by omega) (by omega) t).2
  have h3 := pwI_11 t ht
  omega
def cpM (K : Int) (s : Nat) : Int → Int := upd (upd (fun _ => 0) (s : Int) (s : Int)) ((s : Int) + 1) (K - (s : Int))
theorem cp_sum (K : Int) (F : Int → Int) (k : Int) : ∀ N : Nat, sumA (fun s => F (s : Int) * cpM K s k) N = (if 0 ≤ k ∧ k < N then F k * k else 0) + (if 0 ≤ k - 1 ∧ k - 1 < N then F (k - 1) * (K - (k - 1)) else 0)
  | 0 => by
    show (0 : Int) = _
    rw [if_neg (by omega), if_neg (by omega)]; rfl
  | N + 1 => by
    show sumA (fun s => F (s : Int) * cpM K s k) N + F (N : Int) * cpM K N k = _
    rw [cp_sum K F k N]
    unfold cpM upd
    by_cases e1 : k = (N : Int) + 1
    · subst e1
      have a1 : (if 0 ≤ (N : Int) + 1 ∧ (N : Int) + 1 < (N : Int) then F ((N : Int) + 1) * ((N : Int) + 1) else 0) = 0 := if_neg (by omega)
      have a2 : (if 0 ≤ (N : Int) + 1 - 1 ∧ (N : Int) + 1 - 1 < (N : Int) then F ((N : Int) + 1 - 1) * (K - ((N : Int) + 1 - 1)) else 0) = 0 := if_neg (by omega)
      have a3 : (if 0 ≤ (N : Int) + 1 ∧ (N : Int) + 1 < ((N + 1 : Nat) : Int) then F ((N : Int) + 1) * ((N : Int) + 1) else 0) = 0 := if_neg (by omega)
      have a4 : (if 0 ≤ (N : Int) + 1 - 1 ∧ (N : Int) + 1 - 1 < ((N + 1 : Nat) : Int) then F ((N : Int) + 1 - 1) * (K - ((N : Int) + 1 - 1)) else 0) = F (N : Int) * (K - (N : Int)) := by rw [if_pos (by omega), Int.add_sub_cancel]
      rw [a1, a2, a3, a4, if_pos rfl]
      omega
    · by_cases e2 : k = (N : Int)
      · subst e2
        have a1 : (if 0 ≤ (N : Int) ∧ (N : Int) < (N : Int) then F (N : Int) * (N : Int) else 0) = 0 := if_neg (by omega)
        have a2 : (if 0 ≤ (N : Int) ∧ (N : Int) < ((N + 1 : Nat) : Int) then F (N : Int) * (N : Int) else 0) = F (N : Int) * (N : Int) := if_pos (by omega)
        have a3 : (if 0 ≤ (N : Int) - 1 ∧ (N : Int) - 1 < (N : Int) then F ((N : Int) - 1) * (K - ((N : Int) - 1)) else 0) = (if 0 ≤ (N : Int) - 1 ∧ (N : Int) - 1 < ((N + 1 : Nat) : Int) then F ((N : Int) - 1) * (K - ((N : Int) - 1)) else 0) := by
          by_cases e3 : 0 ≤ (N : Int) - 1
          · rw [if_pos (by omega), if_pos (by omega)]
          · rw [if_neg (by omega), if_neg (by omega)]
        rw [a1, a2, a3, if_neg e1, if_pos rfl]
        omega
      · have a1 : (if 0 ≤ k ∧ k < (N : Int) then F k * k else 0) = (if 0 ≤ k ∧ k < ((N + 1 : Nat) : Int) then F k * k else 0) := by
          by_cases e3 : 0 ≤ k ∧ k < (N : Int)
          · rw [if_pos e3, if_pos (by omega)]
          · rw [if_neg e3, if_neg (by omega)]
        have a2 : (if 0 ≤ k - 1 ∧ k - 1 < (N : Int) then F (k - 1) * (K - (k - 1)) else 0) = (if 0 ≤ k - 1 ∧ k - 1 < ((N + 1 : Nat) : Int) then F (k - 1) * (K - (k - 1)) else 0) := by
          by_cases e3 : 0 ≤ k - 1 ∧ k - 1 < (N : Int)
          · rw [if_pos e3, if_pos (by omega)]
          · rw [if_neg e3, if_neg (by omega)]
        rw [a1, a2, if_neg e1, if_neg e2, Int.mul_zero, Int.add_zero]
theorem cp_step (K : Int) (h : 1 ≤ K) (t : Nat) (k : Int) : sumA (fun s => cpF K t (s : Int) * cpM K s k) (t + 1) = cpF K (t + 1) k := by
  rw [cp_sum]
  show _ = k * cpF K t k + (K - (k - 1)) * cpF K t (k - 1)
  rw [Int.mul_comm k, Int.mul_comm (K - (k - 1))]
  congr 1
  · by_cases e : 0 ≤ k ∧ k < ((t + 1 : Nat) : Int)
    · rw [if_pos e]
    · rw [if_neg e, cp_zero K h t k (by omega), Int.zero_mul]
  · by_cases e : 0 ≤ k - 1 ∧ k - 1 < ((t + 1 : Nat) : Int)
    · rw [if_pos e]
    · rw [if_neg e, cp_zero K h t (k - 1) (by omega), Int.zero_mul]
theorem cp_term (K : Int) (h : 1 ≤ K) (t s : Nat) (k : Int) : 0 ≤ cpF K t (s : Int) * cpM K s k := by
  by_cases e : K < (s : Int)
  · rw [cp_zero K h t s (by omega), Int.zero_mul]; exact Int.le_refl _
  · refine Int.mul_nonneg (cp_bd K h t s).1 ?_
    unfold cpM upd
    split
    · omega
    · split
      · omega
      · exact Int.le_refl _
theorem lit1 (w : World) (N : Nat) (x1 v1 : Int) (h1 : (Lit.int .i64 x1).wf = true) (g1 : (Lit.int .i64 v1).wf = true) (b1 : 0 ≤ x1 ∧ x1 < N) :
    ∃ W1 : World, (Instr.mapUpdate 53 (.map (some w.heap.size)) (.int .i64 x1) (.int .i64 v1)).run Try.prog (w.alloc (.map #[] 0)) = .ok () W1 ∧ TV W1 w.heap.size 1 N (upd (fun _ => 0) x1 v1) ∧ (w.alloc (.map #[] 0)).grownBy W1 (some w.heap.size) := by
  obtain ⟨D, ho, hr, hk⟩ := TV.made w N
  obtain ⟨W1, r1, o1, q1⟩ := ho.update lawI Try.underlying53 (by unfold maxLen; omega) (keyOf_int_mk Try.underlying2 h1) (plainElem_int Try.underlying2 g1)
  exact ⟨W1, r1, ⟨_, o1, put_reads ho.isMap hr x1 v1, put_keys ho.isMap hk x1 _ b1.1 b1.2⟩, q1⟩
def okCC (a b : Int) : Prop := (1 ≤ a ∧ a ≤ 10) ∧ (0 ≤ b ∧ b ≤ 15)
instance (a b : Int) : Decidable (okCC a b) := by unfold okCC; infer_instance
def ok_CouponCounts (a b : Int) : Bool := decide (okCC a b)
def res_CouponCounts (a b : Int) : List Int := if okCC a b then tab (a.toNat + 1) (fun k => cpF a b.toNat (k : Int)) else []
theorem len_CouponCounts (a b : Int) : (res_CouponCounts a b).length ≤ 1048576 := by
  unfold res_CouponCounts
  split
  · rw [tab_len]; have h := ‹okCC a b›.1; omega
  · exact Nat.zero_le _
set_option maxRecDepth 100000 in
set_option maxHeartbeats 1000000 in
theorem coup_impl_yes (K T : Nat) (w : World) (k1 : 1 ≤ K) (k2 : K ≤ 10) (t2 : T ≤ 15) :
    Calls Try.prog 17 #[.int .i64 (K : Int), .int .i64 (T : Int)] w fun e w' => ∃ r, e = .returned (.tuple #[r, .bool true]) ∧ Sw (Value.int .i64) 0 w' r (tab (K + 1) (fun k => cpF K T (k : Int))) w.heap.size w'.heap.size ∧ Below w.heap.size w w' := by
  have H0 := Lib.hid (fun z => within_yes (K : Int) 1 10 z (by omega) (by omega))
  have H1 := Lib.hid (fun z => within_yes (T : Int) 0 15 z (by omega) (by omega))
  have hb0 : Below w.heap.size w (w.alloc (.cells #[.int .i64 (K : Int)] 2)) := (Below.refl _ w).alloc (Nat.le_refl _) _
  have hc0 : (w.alloc (.cells #[.int .i64 (K : Int)] 2)).cell? ⟨w.heap.size, 0, none⟩ = some (.int .i64 (K : Int)) := World.cell?_alloc_at _ _ _ _ rfl
  have Hc0 := Lib.hid hc0
  obtain ⟨W1, r1, ht1, q1⟩ := lit1 (w.alloc (.cells #[.int .i64 (K : Int)] 2)) 1 0 1 (WalkArith.wf_i64 (by omega)) (WalkArith.wf_i64 (by omega)) (by omega)
  have e1 : (w.alloc (.cells #[.int .i64 (K : Int)] 2)).heap.size = w.heap.size + 1 := by simp
  rw [e1] at r1 ht1 q1
  have hb1 : Below (w.heap.size + 1) (w.alloc (.cells #[.int .i64 (K : Int)] 2)) W1 := ((Below.refl _ _).alloc (by simp) _).grown q1 (by simp) (fun j hj => by cases hj; exact Nat.le_refl _)
  have Hb1 := Lib.hid hb1
  have Ht1 := Lib.hid ht1
  have hz1 := hb1.size
  rw [e1] at hz1
  have hmm := @run_makeMap Try.prog
  have Hcl := Lib.hid (fun (t s N : Nat) (z : World) (hs : s + 1 < N) (hN : N ≤ 1000) (c1 : z.cell? ⟨w.heap.size, 0, none⟩ = some (.int .i64 (K : Int))) => clo_coupon (K : Int) w.heap.size s N z (by omega) (by omega) hs hN c1)
  have HO : Hid (∀ (t b : Nat) (z : World), t < 15 → TV z b (t + 1) (t + 1) (cpF K t) → z.cell? ⟨w.heap.size, 0, none⟩ = some (.int .i64 (K : Int)) → Calls Try.prog 32 #[.map (some b), .func (.func 36) #[] #[.pointer (some ⟨w.heap.size, 0, none⟩)]] z fun e z' => ∃ bn, e = .returned (.map (some bn)) ∧ TV z' bn (t + 1 + 1) (t + 1 + 1) (cpF K (t + 1)) ∧ z.heap.size ≤ bn ∧ Below z.heap.size z z') := Lib.hid (fun t b z ht htv hc => by
    have hc' := onward_any 36 #[] #[.pointer (some ⟨w.heap.size, 0, none⟩)] b (t + 1) (t + 1) (t + 1 + 1) (cpF K t) (fun s => cpM K s) z htv (by omega) (by omega)
      (fun s hs k => cp_term K (by omega) t s k) (fun k => by rw [cp_step K (by omega)]; have := cp_big K (by omega) (by omega) (t + 1) (by omega) k; omega)
      (run_enter Try.func36 (by kernel_rfl) (by kernel_rfl))
      (fun s z' hs hb => (clo_coupon (K : Int) w.heap.size s (t + 1 + 1) z' (by omega) (by omega) (by omega) (by omega) (cell_keep hb hc)).mono fun e z'' ⟨bm, h1, h2, h3, h4⟩ => ⟨bm, h1, h2, .inl h3, h4⟩)
    exact hc'.mono fun e z' ⟨bn, h1, h2, h3, h4⟩ => ⟨bn, h1, h2.congr (fun k => cp_step K (by omega) t k), h3, h4⟩)
  have HU := Lib.hid (fun b n N z (h : TV z b n N (cpF K T)) => upTo_any b n N K (cpF K T) z h (by omega))
  have Hz : Hid (∀ k, upd (fun _ => 0) 0 1 k = cpF K 0 k) := Lib.hid (fun k => by unfold upd cpF; rfl)
  clear ht1 q1 hb0 hc0 Hcl hb1
  go_enter Try.func17, Try.ntmps17
  go_wp2_with fail
  refine (H0.out _).mono ?_
  rintro e w' ⟨rfl, rfl⟩
  go_wp2_with fail
  refine (H1.out _).mono ?_
  rintro e w' ⟨rfl, rfl⟩
  go_wp2
  go_loopw [6, 18] (fun x i wr => ∃ t b : Nat, t ≤ T ∧ i = .int .i64 (t : Int) ∧ x = .map (some b) ∧ Hid (TV wr b (t + 1) (t + 1) (cpF K t)) ∧ Hid (Below w.heap.size w wr) ∧ wr.cell? ⟨w.heap.size, 0, none⟩ = some (.int .i64 (K : Int))) (fun _ i _ => T - (intOf i).toNat)
  case atStart => exact ⟨0, w.heap.size + 1, Nat.zero_le _, rfl, rfl, Lib.hid (Ht1.out.congr Hz.out), Lib.hid (((Below.refl _ w).alloc (Nat.le_refl _) _).trans (Hb1.out.mono (by omega))), (Hb1.out.cell (by show w.heap.size < _; omega)).trans Hc0.out⟩
  case round =>
    obtain ⟨t, b, ht, rfl, rfl, htv, hb, hc⟩ := hrel
    have hsz := hb.out.size
    have hlt1 : w.heap.size < wr.heap.size := World.block_lt_of_cell? _ _ hc
    by_cases hlt : t < T
    · have HOt := Lib.hid (HO.out t b wr (by omega) htv.out hc)
      go_wp2_with (go_at_call 32; refine HOt.out.mono ?_; rintro e w2 ⟨bn, rfl, ht2, hbn, hb2⟩; have Ht2 := Lib.hid ht2; have Hb2 := Lib.hid hb2; clear ht2 hb2)
      go_roundw
      case rel => exact ⟨t + 1, bn, by omega, by go_num, rfl, Ht2, Lib.hid (hb.out.trans (Hb2.out.mono hsz)), (Hb2.out.cell (by show w.heap.size < _; omega)).trans hc⟩
      case measure => simp [intOf]; omega
    · obtain rfl : t = T := by omega
      go_wp2_with (go_at_call 34; refine (HU.out b _ _ wr htv.out).mono ?_; rintro e w2 ⟨r, rfl, hs, hb2⟩; have Hs := Lib.hid hs; have Hb2 := Lib.hid hb2; clear hs hb2)
      go_ret2
      exact ⟨_, rfl, Hs.out.mono hsz (Nat.le_refl _) (Nat.le_refl _), hb.out.trans (Hb2.out.mono hsz)⟩
end Go.Proofs.Yticocfoheenmdaa
