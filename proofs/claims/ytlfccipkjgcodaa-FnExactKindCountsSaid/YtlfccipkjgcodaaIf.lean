/- Contracts: kinds of hands counted, in both texts. -/
import Derived.Test.YtlfccipkjgcodaaEz
import Derived.Test.YtlfccipkjgcodaaDc
import Derived.Deep.RegionLaw
import Derived.Deep.RegionLawGrows
set_option linter.unusedVariables false
namespace Go.Proofs.Ytlfccipkjgcodaa
open Go.RowKit

/-- sets by the model's way: nothing is taken twice -/
def cho (n k : Nat) : Nat → Nat
  | 0 => 1
  | i + 1 => cho n k i * (n - k + (i + 1)) / (i + 1)
def choC (n k : Nat) : Nat := if n < k then 0 else cho n k k
theorem cho_bd : ∀ n, n < 53 → ∀ k, k < 6 → k ≤ n → ∀ i, i < k → cho n k i * (n - k + (i + 1)) < 1000000000 := by decide +kernel
theorem cho_next (n k i : Nat) (h : k ≤ n) : ((cho n k (i + 1) : Nat) : Int) = ((cho n k i : Nat) : Int) * ((n : Int) - (k : Int) + ((i : Int) + 1)) / ((i : Int) + 1) := by
  rw [cho, Int.natCast_ediv, Int.natCast_mul, Int.natCast_add, Int.natCast_add, Int.natCast_sub h]; rfl
set_option maxHeartbeats 1000000 in
theorem choose3_any (n k : Nat) (w : World) (hn : n < 53) (hk : k < 6) :
    Calls Try.prog 57 #[.int .i64 (n : Int), .int .i64 (k : Int)] w fun e w' => e = .returned (.int .i64 ((choC n k : Nat) : Int)) ∧ w = w' := by
  unfold choC
  have d0 : decide ((k : Int) < 0) = false := decide_eq_false (by omega)
  by_cases h : n < k
  · rw [if_pos h]
    have d1 : decide ((n : Int) < (k : Int)) = true := decide_eq_true (by omega)
    go_enter Try.func57, Try.ntmps57
    go_wp2
    go_ret
    exact ⟨rfl, rfl⟩
  · rw [if_neg h]
    have d1 : decide ((n : Int) < (k : Int)) = false := decide_eq_false (by omega)
    have Hb := Lib.hid (cho_bd n hn k hk (by omega))
    have Hx := Lib.hid (fun i => cho_next n k i (by omega))
    go_enter Try.func57, Try.ntmps57
    go_wp2
    go_loop [5, 6] (fun c i => ∃ j : Nat, j ≤ k ∧ i = .int .i64 ((j : Int) + 1) ∧ c = .int .i64 ((cho n k j : Nat) : Int)) (fun _ i => (k + 1) - (intOf i).toNat)
    case atStart => exact ⟨0, Nat.zero_le _, rfl, rfl⟩
    case round =>
      obtain ⟨j, hj, rfl, rfl⟩ := hrel
      by_cases hlt : j + 1 ≤ k
      · have hb := Hb.out j (by omega)
        have hm2 : ((cho n k j : Nat) : Int) * ((n : Int) - (k : Int) + ((j : Int) + 1)) = ((cho n k j * (n - k + (j + 1)) : Nat) : Int) := by
          rw [Int.natCast_mul, Int.natCast_add, Int.natCast_sub (by omega), Int.natCast_add]; rfl
        have h0 : 0 ≤ ((cho n k j : Nat) : Int) * ((n : Int) - (k : Int) + ((j : Int) + 1)) := by rw [hm2]; omega
        have h1 : ((cho n k j : Nat) : Int) * ((n : Int) - (k : Int) + ((j : Int) + 1)) ≤ 1000000000 := by rw [hm2]; omega
        have Hn := Lib.hid (Hx.out j)
        clear hb hm2
        generalize ((cho n k j : Nat) : Int) = F at *
        go_wp2
        go_round
        case rel => exact ⟨j + 1, by omega, by go_num, by rw [Hn.out]⟩
        case measure => simp [intOf]; omega
      · obtain rfl : j = k := by omega
        go_wp2
        go_ret
        exact ⟨rfl, rfl⟩
def pwN (x : Nat) : Nat → Nat
  | 0 => 1
  | k + 1 => pwN x k * x
theorem pwN_bd : ∀ x, x < 5 → ∀ k, k < 6 → pwN x k * x < 100000 := by decide +kernel
theorem power_any (x n : Nat) (w : World) (hx : x < 5) (hn : n < 6) :
    Calls Try.prog 58 #[.int .i64 (x : Int), .int .i64 (n : Int)] w fun e w' => e = .returned (.int .i64 ((pwN x n : Nat) : Int)) ∧ w = w' := by
  have Hb := Lib.hid (pwN_bd x hx)
  have Hs := Lib.hid (fun k => (show ((pwN x (k + 1) : Nat) : Int) = ((pwN x k : Nat) : Int) * (x : Int) by rw [pwN, Int.natCast_mul]))
  go_enter Try.func58, Try.ntmps58
  go_wp2
  go_loop [1, 5] (fun i c => ∃ j : Nat, j ≤ n ∧ i = .int .i64 ((n : Int) - (j : Int)) ∧ c = .int .i64 ((pwN x j : Nat) : Int)) (fun i _ => (intOf i).toNat)
  case atStart => exact ⟨0, Nat.zero_le _, by go_num, rfl⟩
  case round =>
    obtain ⟨j, hj, rfl, rfl⟩ := hrel
    by_cases hlt : j < n
    · have hb := Hb.out j (by omega)
      have h1 : ((pwN x j : Nat) : Int) * (x : Int) ≤ 1000000000 := by rw [← Hs.out, pwN]; omega
      have h0 : 0 ≤ ((pwN x j : Nat) : Int) * (x : Int) := by rw [← Hs.out]; omega
      have Hn := Lib.hid (Hs.out j)
      clear hb
      generalize ((pwN x j : Nat) : Int) = F at *
      go_wp2
      go_round
      case rel => exact ⟨j + 1, by omega, by go_num, by rw [Hn.out]⟩
      case measure => simp [intOf]; omega
    · obtain rfl : j = n := by omega
      go_wp2
      go_ret
      exact ⟨rfl, rfl⟩

abbrev okK (a b : Int) : Prop := (5 ≤ a ∧ a ≤ 13) ∧ 1 ≤ b ∧ b ≤ 4
def rowsI (r : Nat) : Int := if r = 5 then 1 else (r : Int) - 3
/-- the program's counts -/
def kcI (r s : Nat) : List Int :=
  [(((setsR r 5 : Nat) : Int) - rowsI r) * ((s : Int) * (s : Int) * (s : Int) * (s : Int) * (s : Int) - (s : Int)),
   (r : Int) * ((setsR s 2 : Nat) : Int) * ((setsR (r - 1) 3 : Nat) : Int) * (s : Int) * (s : Int) * (s : Int),
   ((setsR r 2 : Nat) : Int) * ((setsR s 2 : Nat) : Int) * ((setsR s 2 : Nat) : Int) * ((r : Int) - 2) * (s : Int),
   (r : Int) * ((setsR s 3 : Nat) : Int) * ((setsR (r - 1) 2 : Nat) : Int) * (s : Int) * (s : Int),
   rowsI r * ((s : Int) * (s : Int) * (s : Int) * (s : Int) * (s : Int) - (s : Int)),
   (((setsR r 5 : Nat) : Int) - rowsI r) * (s : Int),
   (r : Int) * ((setsR s 3 : Nat) : Int) * ((r : Int) - 1) * ((setsR s 2 : Nat) : Int),
   (r : Int) * ((setsR s 4 : Nat) : Int) * ((r : Int) - 1) * (s : Int),
   rowsI r * (s : Int)]
/-- .. the model's, without the first -/
def kcS (r s : Nat) : List Int :=
  [((choC (r * s) 5 : Nat) : Int),
   (r : Int) * ((choC s 2 : Nat) : Int) * ((choC (r - 1) 3 : Nat) : Int) * (s : Int) * (s : Int) * (s : Int),
   ((choC r 2 : Nat) : Int) * ((choC s 2 : Nat) : Int) * ((choC s 2 : Nat) : Int) * ((r : Int) - 2) * (s : Int),
   (r : Int) * ((choC s 3 : Nat) : Int) * ((choC (r - 1) 2 : Nat) : Int) * (s : Int) * (s : Int),
   rowsI r * ((pwN s 5 : Nat) : Int) - rowsI r * (s : Int),
   ((choC r 5 : Nat) : Int) * (s : Int) - rowsI r * (s : Int),
   (r : Int) * ((choC s 3 : Nat) : Int) * ((r : Int) - 1) * ((choC s 2 : Nat) : Int),
   (r : Int) * ((choC s 4 : Nat) : Int) * ((r : Int) - 1) * (s : Int),
   rowsI r * (s : Int)]
def takenI (l : List Int) : Nat → Int
  | 0 => l.getD 0 0
  | k + 1 => takenI l k - l.getD (k + 1) 0
theorem kc_eq : ∀ r, r < 14 → ∀ s, s < 5 → 5 ≤ r → 1 ≤ s → (kcS r s).set 0 (takenI (kcS r s) 8) = kcI r s := by decide +kernel
theorem kc_bd : ∀ r, r < 14 → ∀ s, s < 5 → 5 ≤ r → 1 ≤ s → ((List.range 9).all fun k => decide (0 ≤ (kcS r s).getD k 0) && decide ((kcS r s).getD k 0 ≤ 2598960) && decide (0 ≤ takenI (kcS r s) k) && decide (takenI (kcS r s) k ≤ 2598960)) = true := by decide +kernel
def ok_KindCounts (a b : Int) : Bool := decide (okK a b)
def res_KindCounts (a b : Int) : List Int := if okK a b then kcI a.toNat b.toNat else []
theorem kc_yes (a b : Int) (h : okK a b) : ok_KindCounts a b = true ∧ res_KindCounts a b = kcI a.toNat b.toNat := ⟨decide_eq_true h, if_pos h⟩
theorem kc_no (a b : Int) (h : ¬ okK a b) : ok_KindCounts a b = false ∧ res_KindCounts a b = [] := ⟨decide_eq_false h, if_neg h⟩
theorem len_KindCounts (a b : Int) : (res_KindCounts a b).length ≤ 1048576 := by
  unfold res_KindCounts; split <;> simp [kcI]

/-- all that is reckoned on the way -/
def wayL (r s : Nat) : List Int := [
  ((setsR r 5 : Nat) : Int),
  ((setsR s 2 : Nat) : Int),
  ((setsR s 3 : Nat) : Int),
  ((setsR s 4 : Nat) : Int),
  ((setsR (r - 1) 2 : Nat) : Int),
  ((setsR (r - 1) 3 : Nat) : Int),
  ((setsR r 2 : Nat) : Int),
  ((s : Int) * (s : Int)),
  ((s : Int) * (s : Int) * (s : Int)),
  ((s : Int) * (s : Int) * (s : Int) * (s : Int)),
  ((s : Int) * (s : Int) * (s : Int) * (s : Int) * (s : Int)),
  (rowsI r * (s : Int)),
  (rowsI r * ((s : Int) * (s : Int) * (s : Int) * (s : Int) * (s : Int) - (s : Int))),
  (((setsR r 5 : Nat) : Int) - rowsI r),
  ((((setsR r 5 : Nat) : Int) - rowsI r) * (s : Int)),
  ((((setsR r 5 : Nat) : Int) - rowsI r) * ((s : Int) * (s : Int) * (s : Int) * (s : Int) * (s : Int) - (s : Int))),
  ((r : Int) * ((setsR s 4 : Nat) : Int)),
  ((r : Int) * ((setsR s 4 : Nat) : Int) * ((r : Int) - 1)),
  ((r : Int) * ((setsR s 4 : Nat) : Int) * ((r : Int) - 1) * (s : Int)),
  ((r : Int) * ((setsR s 3 : Nat) : Int)),
  ((r : Int) * ((setsR s 3 : Nat) : Int) * ((r : Int) - 1)),
  ((r : Int) * ((setsR s 3 : Nat) : Int) * ((r : Int) - 1) * ((setsR s 2 : Nat) : Int)),
  ((r : Int) * ((setsR s 3 : Nat) : Int) * ((setsR (r - 1) 2 : Nat) : Int)),
  ((r : Int) * ((setsR s 3 : Nat) : Int) * ((setsR (r - 1) 2 : Nat) : Int) * (s : Int)),
  ((r : Int) * ((setsR s 3 : Nat) : Int) * ((setsR (r - 1) 2 : Nat) : Int) * (s : Int) * (s : Int)),
  (((setsR r 2 : Nat) : Int) * ((setsR s 2 : Nat) : Int)),
  (((setsR r 2 : Nat) : Int) * ((setsR s 2 : Nat) : Int) * ((setsR s 2 : Nat) : Int)),
  (((setsR r 2 : Nat) : Int) * ((setsR s 2 : Nat) : Int) * ((setsR s 2 : Nat) : Int) * ((r : Int) - 2)),
  (((setsR r 2 : Nat) : Int) * ((setsR s 2 : Nat) : Int) * ((setsR s 2 : Nat) : Int) * ((r : Int) - 2) * (s : Int)),
  ((r : Int) * ((setsR s 2 : Nat) : Int)),
  ((r : Int) * ((setsR s 2 : Nat) : Int) * ((setsR (r - 1) 3 : Nat) : Int)),
  ((r : Int) * ((setsR s 2 : Nat) : Int) * ((setsR (r - 1) 3 : Nat) : Int) * (s : Int)),
  ((r : Int) * ((setsR s 2 : Nat) : Int) * ((setsR (r - 1) 3 : Nat) : Int) * (s : Int) * (s : Int)),
  ((r : Int) * ((setsR s 2 : Nat) : Int) * ((setsR (r - 1) 3 : Nat) : Int) * (s : Int) * (s : Int) * (s : Int))]
theorem kc_way : ∀ r, r < 14 → ∀ s, s < 5 → 5 ≤ r → 1 ≤ s → (decide (1 ≤ rowsI r) && decide (rowsI r ≤ 10) && (wayL r s).all fun x => decide (0 ≤ x) && decide (x ≤ 100000000)) = true := by decide +kernel

theorem sw_new (l : List Int) (w : World) (t : TypeId) : Sw (Value.int .i64) 0 (w.alloc (.cells (l.map (Value.int .i64)).toArray t)) (.slice (some ⟨w.heap.size, 0, none⟩) l.length l.length) l w.heap.size (w.alloc (.cells (l.map (Value.int .i64)).toArray t)).heap.size := by
  have hg : (w.alloc (.cells (l.map (Value.int .i64)).toArray t)).heap[w.heap.size]? = some (.cells (l.map (Value.int .i64)).toArray t (0, 0)) := by
    show (w.heap.push _)[w.heap.size]? = _
    simp
  refine ⟨_, l.length, rfl, fun _ => ⟨Nat.le_refl _, w.heap.size, 0, rfl, Nat.le_refl _, by simp, Nat.le_refl _, fun i hi => ⟨?_, ?_⟩⟩⟩
  · simp only [World.cell?, hg]; simp [hi]
  · simp only [World.frozen?, hg]; simp
set_option maxRecDepth 100000 in
set_option maxHeartbeats 4000000 in
theorem kc_impl_yes (r s : Nat) (w : World) (r5 : 5 ≤ r) (r13 : r ≤ 13) (s1 : 1 ≤ s) (s4 : s ≤ 4) :
    Calls Try.prog 27 #[.int .i64 (r : Int), .int .i64 (s : Int)] w fun e w' => ∃ v, e = .returned (.tuple #[v, .bool true]) ∧ Sw (Value.int .i64) 0 w' v (kcI r s) w.heap.size w'.heap.size ∧ Below w.heap.size w w' := by
  have hway := kc_way r (by omega) s (by omega) r5 s1
  have Hc := Lib.hid (fun n k (z : World) (h1 : n < 29) (h2 : k < 21) => countSets_any n k z h1 h2)
  have hr1 : (r : Int) - 1 = ((r - 1 : Nat) : Int) := by omega
  have Hr1 := Lib.hid hr1
  have Hrow : Hid ((if r = 5 then (1 : Int) else (r : Int) - 3) = rowsI r) := Lib.hid rfl
  have d1 : decide ((r : Int) < 5) = false := decide_eq_false (by omega)
  have d2 : decide (13 < (r : Int)) = false := decide_eq_false (by omega)
  have d3 : decide ((s : Int) < 1) = false := decide_eq_false (by omega)
  have d4 : decide (4 < (s : Int)) = false := decide_eq_false (by omega)
  unfold kcI
  have Hgo : Hid (∀ R : Int, R = rowsI r → True) := Lib.hid (fun _ _ => trivial)
  have hmk : ∀ w : World, (Instr.makeSlice 25 (.int .i64 9) (.int .i64 9)).run Try.prog w = .ok (.slice (some ⟨w.heap.size, 0, none⟩) 9 9) (w.alloc (.cells #[.int .i64 0, .int .i64 0, .int .i64 0, .int .i64 0, .int .i64 0, .int .i64 0, .int .i64 0, .int .i64 0, .int .i64 0] 2)) := fun _ => by kernel_rfl
  by_cases e5 : r = 5
  · have er : rowsI r = 1 := by unfold rowsI; rw [if_pos e5]
    have ne : ((r : Int) == 5) = true := by rw [beq_iff_eq]; omega
    have ne' : ((r : Int) = 5) = True := eq_true (by omega)
    clear hr1 e5
    simp only [wayL, List.all_cons, List.all_nil, Bool.and_true, Bool.and_eq_true, decide_eq_true_eq] at hway
    rw [er] at hway ⊢
    simp only [Int.one_mul] at hway ⊢
    clear er
    have C2 := Lib.hid (fun z => Hc.out s 2 z (by omega) (by omega))
    have C3 := Lib.hid (fun z => Hc.out s 3 z (by omega) (by omega))
    have C4 := Lib.hid (fun z => Hc.out s 4 z (by omega) (by omega))
    have D5 := Lib.hid (fun z => Hc.out r 5 z (by omega) (by omega))
    have D2 := Lib.hid (fun z => Hc.out r 2 z (by omega) (by omega))
    have E2 := Lib.hid (fun z => Hc.out (r - 1) 2 z (by omega) (by omega))
    have E3 := Lib.hid (fun z => Hc.out (r - 1) 3 z (by omega) (by omega))
    rw [← Hr1.out] at E2 E3
    obtain ⟨⟨b1, b2⟩, ⟨b3, b4⟩, ⟨b5, b6⟩, ⟨b7, b8⟩, ⟨b9, b10⟩, ⟨b11, b12⟩, ⟨b13, b14⟩, ⟨b15, b16⟩, ⟨b17, b18⟩, ⟨b19, b20⟩, ⟨b21, b22⟩, ⟨b23, b24⟩, ⟨b25, b26⟩, ⟨b27, b28⟩, ⟨b29, b30⟩, ⟨b31, b32⟩, ⟨b33, b34⟩, ⟨b35, b36⟩, ⟨b37, b38⟩, ⟨b39, b40⟩, ⟨b41, b42⟩, ⟨b43, b44⟩, ⟨b45, b46⟩, ⟨b47, b48⟩, ⟨b49, b50⟩, ⟨b51, b52⟩, ⟨b53, b54⟩, ⟨b55, b56⟩, ⟨b57, b58⟩, ⟨b59, b60⟩, ⟨b61, b62⟩, ⟨b63, b64⟩, ⟨b65, b66⟩, ⟨b67, b68⟩, b69, b70⟩ := hway
    generalize ((setsR s 2 : Nat) : Int) = S2 at *
    generalize ((setsR s 3 : Nat) : Int) = S3 at *
    generalize ((setsR s 4 : Nat) : Int) = S4 at *
    generalize ((setsR r 5 : Nat) : Int) = R5 at *
    generalize ((setsR r 2 : Nat) : Int) = R2 at *
    generalize ((setsR (r - 1) 2 : Nat) : Int) = Q2 at *
    generalize ((setsR (r - 1) 3 : Nat) : Int) = Q3 at *
    go_enter Try.func27, Try.ntmps27
    go_wp2_with fail
    refine (C2.out _).mono ?_
    rintro e w' ⟨rfl, rfl⟩
    go_wp2_with fail
    refine (C3.out _).mono ?_
    rintro e w' ⟨rfl, rfl⟩
    go_wp2_with fail
    refine (C4.out _).mono ?_
    rintro e w' ⟨rfl, rfl⟩
    go_wp2_with fail
    refine (D5.out _).mono ?_
    rintro e w' ⟨rfl, rfl⟩
    go_wp2_with fail
    refine (E2.out _).mono ?_
    rintro e w' ⟨rfl, rfl⟩
    go_wp2_with fail
    refine (D2.out _).mono ?_
    rintro e w' ⟨rfl, rfl⟩
    go_wp2_with fail
    refine (E3.out _).mono ?_
    rintro e w' ⟨rfl, rfl⟩
    go_wp2
    go_ret2
    exact ⟨_, rfl, sw_new [_, _, _, _, _, _, _, _, _] w _, (Below.refl _ _).alloc (Nat.le_refl _) _⟩
  · have er : rowsI r = (r : Int) - 5 + 2 := by unfold rowsI; rw [if_neg e5]; omega
    have ne : ((r : Int) == 5) = false := by rw [Bool.eq_false_iff]; intro e; rw [beq_iff_eq] at e; omega
    have ne' : ((r : Int) = 5) = False := eq_false (by omega)
    clear hr1
    simp only [wayL, List.all_cons, List.all_nil, Bool.and_true, Bool.and_eq_true, decide_eq_true_eq] at hway
    rw [er] at hway ⊢
    clear er
    have C2 := Lib.hid (fun z => Hc.out s 2 z (by omega) (by omega))
    have C3 := Lib.hid (fun z => Hc.out s 3 z (by omega) (by omega))
    have C4 := Lib.hid (fun z => Hc.out s 4 z (by omega) (by omega))
    have D5 := Lib.hid (fun z => Hc.out r 5 z (by omega) (by omega))
    have D2 := Lib.hid (fun z => Hc.out r 2 z (by omega) (by omega))
    have E2 := Lib.hid (fun z => Hc.out (r - 1) 2 z (by omega) (by omega))
    have E3 := Lib.hid (fun z => Hc.out (r - 1) 3 z (by omega) (by omega))
    rw [← Hr1.out] at E2 E3
    obtain ⟨⟨b1, b2⟩, ⟨b3, b4⟩, ⟨b5, b6⟩, ⟨b7, b8⟩, ⟨b9, b10⟩, ⟨b11, b12⟩, ⟨b13, b14⟩, ⟨b15, b16⟩, ⟨b17, b18⟩, ⟨b19, b20⟩, ⟨b21, b22⟩, ⟨b23, b24⟩, ⟨b25, b26⟩, ⟨b27, b28⟩, ⟨b29, b30⟩, ⟨b31, b32⟩, ⟨b33, b34⟩, ⟨b35, b36⟩, ⟨b37, b38⟩, ⟨b39, b40⟩, ⟨b41, b42⟩, ⟨b43, b44⟩, ⟨b45, b46⟩, ⟨b47, b48⟩, ⟨b49, b50⟩, ⟨b51, b52⟩, ⟨b53, b54⟩, ⟨b55, b56⟩, ⟨b57, b58⟩, ⟨b59, b60⟩, ⟨b61, b62⟩, ⟨b63, b64⟩, ⟨b65, b66⟩, ⟨b67, b68⟩, b69, b70⟩ := hway
    generalize ((setsR s 2 : Nat) : Int) = S2 at *
    generalize ((setsR s 3 : Nat) : Int) = S3 at *
    generalize ((setsR s 4 : Nat) : Int) = S4 at *
    generalize ((setsR r 5 : Nat) : Int) = R5 at *
    generalize ((setsR r 2 : Nat) : Int) = R2 at *
    generalize ((setsR (r - 1) 2 : Nat) : Int) = Q2 at *
    generalize ((setsR (r - 1) 3 : Nat) : Int) = Q3 at *
    go_enter Try.func27, Try.ntmps27
    go_wp2_with fail
    refine (C2.out _).mono ?_
    rintro e w' ⟨rfl, rfl⟩
    go_wp2_with fail
    refine (C3.out _).mono ?_
    rintro e w' ⟨rfl, rfl⟩
    go_wp2_with fail
    refine (C4.out _).mono ?_
    rintro e w' ⟨rfl, rfl⟩
    go_wp2_with fail
    refine (D5.out _).mono ?_
    rintro e w' ⟨rfl, rfl⟩
    go_wp2_with fail
    refine (E2.out _).mono ?_
    rintro e w' ⟨rfl, rfl⟩
    go_wp2_with fail
    refine (D2.out _).mono ?_
    rintro e w' ⟨rfl, rfl⟩
    go_wp2_with fail
    refine (E3.out _).mono ?_
    rintro e w' ⟨rfl, rfl⟩
    go_wp2
    go_ret2
    exact ⟨_, rfl, sw_new [_, _, _, _, _, _, _, _, _] w _, (Below.refl _ _).alloc (Nat.le_refl _) _⟩
end Go.Proofs.Ytlfccipkjgcodaa
