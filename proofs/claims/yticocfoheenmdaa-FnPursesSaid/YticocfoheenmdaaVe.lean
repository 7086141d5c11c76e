/- Contracts: rows of purses, the program. -/
import Derived.Test.YticocfoheenmdaaVc
set_option linter.unusedVariables false
namespace Go.Proofs.Yticocfoheenmdaa
open Go.RowKit Go.Maps

/-- with how many of q^t a purse has k -/
def puF (u a p q : Int) : Nat → Int → Int
  | 0, k => if k = u then 1 else 0
  | t + 1, k => (if k = 0 ∨ k = a then q * puF u a p q t k else 0) + (if 0 < k - 1 ∧ k - 1 < a then p * puF u a p q t (k - 1) else 0) + (if 0 < k + 1 ∧ k + 1 < a then (q - p) * puF u a p q t (k + 1) else 0)
theorem pu_zero (u a p q : Int) (hu : 0 ≤ u ∧ u ≤ a) (ha : 1 ≤ a) (t : Nat) (k : Int) (hk : k < 0 ∨ a < k) : puF u a p q t k = 0 := by
  cases t with
  | zero => unfold puF; rw [if_neg (by omega)]
  | succ t => unfold puF; rw [if_neg (by omega), if_neg (by omega), if_neg (by omega)]; rfl
theorem pu_bd (u a p q : Int) (hp : 1 ≤ p) (hq : p < q) (t : Nat) (k : Int) : 0 ≤ puF u a p q t k ∧ puF u a p q t k ≤ pwI (2 * q) t := by
  induction t generalizing k with
  | zero => unfold puF pwI; split <;> omega
  | succ t ih =>
    have h0 := ih k
    have h1 := ih (k - 1)
    have h2 := ih (k + 1)
    have a0 := Int.mul_nonneg (show 0 ≤ q by omega) h0.1
    have a1 := Int.mul_le_mul_of_nonneg_left h0.2 (show 0 ≤ q by omega)
    have b0 := Int.mul_nonneg (show 0 ≤ p by omega) h1.1
    have b1 := Int.mul_le_mul_of_nonneg_left h1.2 (show 0 ≤ p by omega)
    have c0 := Int.mul_nonneg (show 0 ≤ q - p by omega) h2.1
    have c1 := Int.mul_le_mul_of_nonneg_left h2.2 (show 0 ≤ q - p by omega)
    have d0 : 0 ≤ pwI (2 * q) t := Int.le_trans h0.1 h0.2
    have e0 := Int.mul_nonneg (show 0 ≤ q by omega) d0
    have e1 := Int.mul_nonneg (show 0 ≤ p by omega) d0
    have e2 := Int.mul_nonneg (show 0 ≤ q - p by omega) d0
    have e : pwI (2 * q) (t + 1) = q * pwI (2 * q) t + (p * pwI (2 * q) t + (q - p) * pwI (2 * q) t) := by
      show pwI (2 * q) t * (2 * q) = _
      rw [← Int.add_mul, ← Int.add_mul, Int.mul_comm]; congr 1; omega
    unfold puF
    rw [e]
    split <;> split <;> split <;> omega
theorem pwI_20 : ∀ t, t < 14 → pwI 20 t ≤ 81920000000000000 := by decide +kernel
theorem pu_big (u a p q : Int) (hp : 1 ≤ p) (hq : p < q) (h10 : q ≤ 10) (t : Nat) (ht : t < 14) (k : Int) : 0 ≤ puF u a p q t k ∧ puF u a p q t k ≤ 81920000000000000 := by
  have h1 := pu_bd u a p q hp hq t k
  have h2 := (pwI_mono2 (2 * q) 20 (by omega) (by omega) t).2
  have h3 := pwI_20 t ht
  omega
def puM (a p q : Int) (s : Nat) : Int → Int := if (s : Int) = 0 ∨ (s : Int) = a then upd (fun _ => 0) (s : Int) q else upd (upd (fun _ => 0) ((s : Int) - 1) (q - p)) ((s : Int) + 1) p
theorem sumA_oneV (x : Int) (G : Int → Int) : ∀ N : Nat, sumA (fun s => if (s : Int) = x then G (s : Int) else 0) N = if 0 ≤ x ∧ x < (N : Int) then G x else 0
  | 0 => by rw [if_neg (by omega)]; rfl
  | N + 1 => by
    show sumA (fun s => if (s : Int) = x then G (s : Int) else 0) N + (if (N : Int) = x then G (N : Int) else 0) = _
    rw [sumA_oneV x G N]
    by_cases e : (N : Int) = x
    · subst e
      rw [if_neg (show ¬ (0 ≤ (N : Int) ∧ (N : Int) < (N : Int)) by omega), if_pos rfl, if_pos (show 0 ≤ (N : Int) ∧ (N : Int) < ((N + 1 : Nat) : Int) by omega), Int.zero_add]
    · rw [if_neg e, Int.add_zero]
      by_cases e2 : 0 ≤ x ∧ x < (N : Int)
      · rw [if_pos e2, if_pos (by omega)]
      · rw [if_neg e2, if_neg (by omega)]
theorem sumA_addV (g h : Nat → Int) : ∀ N, sumA (fun s => g s + h s) N = sumA g N + sumA h N
  | 0 => rfl
  | N + 1 => by
    show sumA (fun s => g s + h s) N + (g N + h N) = (sumA g N + g N) + (sumA h N + h N)
    rw [sumA_addV g h N]; omega
theorem sumA_congrV {g h : Nat → Int} : ∀ N, (∀ s, s < N → g s = h s) → sumA g N = sumA h N
  | 0, _ => rfl
  | N + 1, e => by
    show sumA g N + g N = sumA h N + h N
    rw [sumA_congrV N (fun s hs => e s (by omega)), e N (by omega)]
theorem pu_step (u a p q : Int) (t N : Nat) (hN : (N : Int) = a + 1) (ha : 1 ≤ a) (k : Int) : sumA (fun s => puF u a p q t (s : Int) * puM a p q s k) N = puF u a p q (t + 1) k := by
  obtain ⟨GA, hA⟩ : ∃ G : Int → Int, ∀ y, G y = if y = 0 ∨ y = a then q * puF u a p q t y else 0 := ⟨_, fun _ => rfl⟩
  obtain ⟨GB, hB⟩ : ∃ G : Int → Int, ∀ y, G y = if 0 < y ∧ y < a then p * puF u a p q t y else 0 := ⟨_, fun _ => rfl⟩
  obtain ⟨GC, hC⟩ : ∃ G : Int → Int, ∀ y, G y = if 0 < y ∧ y < a then (q - p) * puF u a p q t y else 0 := ⟨_, fun _ => rfl⟩
  have e : ∀ s : Nat, s < N → puF u a p q t (s : Int) * puM a p q s k = (if (s : Int) = k then GA (s : Int) else 0) + ((if (s : Int) = k - 1 then GB (s : Int) else 0) + (if (s : Int) = k + 1 then GC (s : Int) else 0)) := by
    intro s hs
    unfold puM
    by_cases h1 : (s : Int) = 0 ∨ (s : Int) = a
    · have hn : ¬ (0 < (s : Int) ∧ (s : Int) < a) := by omega
      rw [if_pos h1, hA, hB, hC, if_pos h1, if_neg hn, if_neg hn, ite_self, ite_self, Int.add_zero, Int.add_zero]
      unfold upd
      by_cases h2 : (s : Int) = k
      · rw [if_pos h2.symm, if_pos h2, Int.mul_comm]
      · rw [if_neg (fun h => h2 h.symm), if_neg h2, Int.mul_zero]
    · have hn : 0 < (s : Int) ∧ (s : Int) < a := by omega
      rw [if_neg h1, hA, hB, hC, if_neg h1, if_pos hn, if_pos hn, ite_self, Int.zero_add]
      unfold upd
      by_cases h2 : k = (s : Int) + 1
      · rw [if_pos h2, if_pos (show (s : Int) = k - 1 by omega), if_neg (show ¬ (s : Int) = k + 1 by omega), Int.mul_comm, Int.add_zero]
      · rw [if_neg h2, if_neg (show ¬ (s : Int) = k - 1 by omega), Int.zero_add]
        by_cases h3 : k = (s : Int) - 1
        · rw [if_pos h3, if_pos (show (s : Int) = k + 1 by omega), Int.mul_comm]
        · rw [if_neg h3, if_neg (show ¬ (s : Int) = k + 1 by omega), Int.mul_zero]
  rw [sumA_congrV N e, sumA_addV, sumA_addV, sumA_oneV, sumA_oneV, sumA_oneV, hA, hB, hC]
  show _ = (if k = 0 ∨ k = a then q * puF u a p q t k else 0) + (if 0 < k - 1 ∧ k - 1 < a then p * puF u a p q t (k - 1) else 0) + (if 0 < k + 1 ∧ k + 1 < a then (q - p) * puF u a p q t (k + 1) else 0)
  rw [Int.add_assoc]
  congr 1
  · by_cases h : k = 0 ∨ k = a
    · rw [if_pos (by omega), if_pos h]
    · rw [if_neg h]; split <;> first | rfl | exact if_neg h
  · congr 1
    · by_cases h : 0 < k - 1 ∧ k - 1 < a
      · rw [if_pos (by omega), if_pos h]
      · rw [if_neg h]; split <;> first | rfl | exact if_neg h
    · by_cases h : 0 < k + 1 ∧ k + 1 < a
      · rw [if_pos (by omega), if_pos h]
      · rw [if_neg h]; split <;> first | rfl | exact if_neg h
theorem pu_term (u a p q : Int) (hp : 1 ≤ p) (hq : p < q) (t s : Nat) (k : Int) : 0 ≤ puF u a p q t (s : Int) * puM a p q s k := by
  refine Int.mul_nonneg (pu_bd u a p q hp hq t s).1 ?_
  unfold puM
  split
  · unfold upd; split
    · omega
    · exact Int.le_refl _
  · unfold upd; split
    · omega
    · split
      · omega
      · exact Int.le_refl _
set_option maxRecDepth 100000 in
set_option maxHeartbeats 2000000 in
theorem clo_purse (a p q : Int) (B1 B2 B3 s N : Nat) (w : World) (hN : (N : Int) = a + 1) (ha : 1 ≤ a) (ha2 : a ≤ 10) (hs : s < N) (hp : 1 ≤ p) (hq : p < q) (hq2 : q ≤ 10) (c1 : w.cell? ⟨B1, 0, none⟩ = some (.int .i64 a)) (c2 : w.cell? ⟨B2, 0, none⟩ = some (.int .i64 q)) (c3 : w.cell? ⟨B3, 0, none⟩ = some (.int .i64 p)) :
    Calls Try.prog 33 #[.int .i64 (s : Int), .pointer (some ⟨B1, 0, none⟩), .pointer (some ⟨B2, 0, none⟩), .pointer (some ⟨B3, 0, none⟩)] w fun e w' => ∃ bm, e = .returned (.map (some bm)) ∧ TV w' bm 1000 N (puM a p q s) ∧ w.heap.size ≤ bm ∧ Below w.heap.size w w' := by
  have hmm := @run_makeMap Try.prog
  have h2 : B2 < w.heap.size := World.block_lt_of_cell? _ _ c2
  have h3 : B3 < w.heap.size := World.block_lt_of_cell? _ _ c3
  unfold puM
  by_cases h : (s : Int) = 0 ∨ (s : Int) = a
  · rw [if_pos h]
    obtain ⟨W1, r1, ht, q1⟩ := lit1 w N (s : Int) q (WalkArith.wf_i64 (by omega)) (WalkArith.wf_i64 (by omega)) (by omega)
    have Ht := Lib.hid ht
    have Hb : Hid (Below w.heap.size w W1) := Lib.hid (((Below.refl _ w).alloc (Nat.le_refl _) (.map #[] 0)).grown q1 (by simp) (fun j hj => by cases hj; exact Nat.le_refl _))
    have c2' : (w.alloc (.map #[] 0)).cell? ⟨B2, 0, none⟩ = some (.int .i64 q) := (World.cell?_alloc_past _ _ _ h2).trans c2
    clear ht q1
    by_cases h0 : s = 0
    · subst h0
      clear h
      rw [show ((0 : Nat) : Int) = 0 from rfl] at r1 Ht ⊢
      go_enter Try.func33, Try.ntmps33
      go_wp2
      go_ret
      exact ⟨_, rfl, Ht.out.mono (by omega) (Nat.le_refl _), Nat.le_refl _, Hb.out⟩
    · obtain rfl : a = (s : Int) := by omega
      have d0 : ((s : Int) == 0) = false := by rw [beq_eq_false_iff_ne]; omega
      have d0' : ((s : Int) = 0) = False := eq_false (by omega)
      clear h h0
      go_enter Try.func33, Try.ntmps33
      go_wp2
      go_ret
      exact ⟨_, rfl, Ht.out.mono (by omega) (Nat.le_refl _), Nat.le_refl _, Hb.out⟩
  · rw [if_neg h]
    have d0 : ((s : Int) == 0) = false := by rw [beq_eq_false_iff_ne]; omega
    have d0' : ((s : Int) = 0) = False := eq_false (by omega)
    have d1 : ((s : Int) == a) = false := by rw [beq_eq_false_iff_ne]; omega
    have d1' : ((s : Int) = a) = False := eq_false (by omega)
    obtain ⟨W1, W2, r1, r2, ht, q1, q2⟩ := lit2 w N ((s : Int) - 1) (q - p) ((s : Int) + 1) p (WalkArith.wf_i64 (by omega)) (WalkArith.wf_i64 (by omega)) (WalkArith.wf_i64 (by omega)) (WalkArith.wf_i64 (by omega)) (by omega) (by omega)
    obtain ⟨V1, V2, s1, s2, hs', p1, p2⟩ := lit2 w N ((s : Int) + 1) p ((s : Int) - 1) (q - p) (WalkArith.wf_i64 (by omega)) (WalkArith.wf_i64 (by omega)) (WalkArith.wf_i64 (by omega)) (WalkArith.wf_i64 (by omega)) (by omega) (by omega)
    have a2 : (w.alloc (.map #[] 0)).cell? ⟨B2, 0, none⟩ = some (.int .i64 q) := (World.cell?_alloc_past _ _ _ h2).trans c2
    have a3 : (w.alloc (.map #[] 0)).cell? ⟨B3, 0, none⟩ = some (.int .i64 p) := (World.cell?_alloc_past _ _ _ h3).trans c3
    have b2 : W1.cell? ⟨B2, 0, none⟩ = some (.int .i64 q) := (World.cell?_of_block (a := ⟨B2, 0, none⟩) (q1.block B2 (by simp; omega) (fun e => by have := Option.some.inj e; omega))).trans a2
    have b3 : W1.cell? ⟨B3, 0, none⟩ = some (.int .i64 p) := (World.cell?_of_block (a := ⟨B3, 0, none⟩) (q1.block B3 (by simp; omega) (fun e => by have := Option.some.inj e; omega))).trans a3
    have e2 : V1.cell? ⟨B2, 0, none⟩ = some (.int .i64 q) := (World.cell?_of_block (a := ⟨B2, 0, none⟩) (p1.block B2 (by simp; omega) (fun e => by have := Option.some.inj e; omega))).trans a2
    have e3 : V1.cell? ⟨B3, 0, none⟩ = some (.int .i64 p) := (World.cell?_of_block (a := ⟨B3, 0, none⟩) (p1.block B3 (by simp; omega) (fun e => by have := Option.some.inj e; omega))).trans a3
    have Ht := Lib.hid ht
    have Hs := Lib.hid (hs'.congr (g := upd (upd (fun _ => 0) ((s : Int) - 1) (q - p)) ((s : Int) + 1) p) (fun x => by unfold upd; split <;> split <;> first | rfl | omega))
    have hb : Below w.heap.size w W2 := ((below_drewN ((Below.refl _ w).alloc (Nat.le_refl _) (.map #[] 0)) 1).grown q1 (by simp) (fun j hj => by cases hj; exact Nat.le_refl _)).grown q2 (by have := q1.size; simp at this; omega) (fun j hj => by cases hj; exact Nat.le_refl _)
    have hb' : Below w.heap.size w V2 := ((below_drewN ((Below.refl _ w).alloc (Nat.le_refl _) (.map #[] 0)) 1).grown p1 (by simp) (fun j hj => by cases hj; exact Nat.le_refl _)).grown p2 (by have := p1.size; simp at this; omega) (fun j hj => by cases hj; exact Nat.le_refl _)
    have Hb := Lib.hid hb
    have Hb' := Lib.hid hb'
    have hw1 : IntKind.i64.wrap ((s : Int) + 1) = (s : Int) + 1 := IntWalk.i64_in _ (by omega)
    have hw2 : IntKind.i64.wrap ((s : Int) - 1) = (s : Int) - 1 := IntWalk.i64_in _ (by omega)
    have hw3 : IntKind.i64.wrap (q - p) = q - p := IntWalk.i64_in _ (by omega)
    clear ht q1 q2 hb hs' p1 p2 hb' h
    go_enter Try.func33, Try.ntmps33
    go_wp2
    go_region
    all_goals
      go_wp2
      go_ret
      first | exact ⟨_, rfl, Ht.out.mono (by omega) (Nat.le_refl _), Nat.le_refl _, Hb.out⟩ | exact ⟨_, rfl, Hs.out.mono (by omega) (Nat.le_refl _), Nat.le_refl _, Hb'.out⟩
end Go.Proofs.Yticocfoheenmdaa
