/- Contracts: the row, the kind and the value of what five cards look like, in the program. -/
import Derived.Test.YtodmaomngpnboaaHsE
import Derived.BigQuiet
set_option linter.unusedVariables false
namespace Go.Proofs.Ytodmaomngpnboaa
open Go.RowKit

def eqFR (L M : List Int) (s n : Nat) : Bool := (List.range' s n).all fun i => decide (L.getD i 0 = M.getD i 0)
theorem forIn_eqR (P : Program) (w : World) (L M : List Int) (f : Nat → (Option Bool × Unit) → Sem (ForInStep (Option Bool × Unit))) : ∀ n s, (∀ i, s ≤ i → i < s + n → (f i (none, ())).run P w = .ok (if L.getD i 0 = M.getD i 0 then .yield (none, ()) else .done (some false, ())) w) →
    (forIn (List.range' s n) ((none, ()) : Option Bool × Unit) f).run P w = .ok (if eqFR L M s n = true then (none, ()) else (some false, ())) w
  | 0, s, _ => by
    rw [List.range'_zero, List.forIn_nil]
    rfl
  | n + 1, s, h => by
    rw [List.range'_succ, List.forIn_cons, Sem.run_bind, h s (Nat.le_refl _) (by omega)]
    have ih := forIn_eqR P w L M f n (s + 1) (fun i h1 h2 => h i (by omega) (by omega))
    unfold eqFR at ih ⊢
    rw [List.range'_succ, List.all_cons]
    by_cases e : L.getD s 0 = M.getD s 0
    · rw [if_pos e, decide_eq_true e, Bool.true_and]
      exact ih
    · rw [if_neg e, decide_eq_false e, Bool.false_and, if_neg Bool.false_ne_true]
      rfl
theorem eqF_allR (L M : List Int) (n : Nat) (hL : L.length = n) (hM : M.length = n) : eqFR L M 0 n = decide (L = M) := by
  unfold eqFR
  by_cases e : L = M
  · rw [decide_eq_true e, List.all_eq_true]
    intro i _
    rw [e]; simp
  · rw [decide_eq_false e, Bool.eq_false_iff]
    intro h
    rw [List.all_eq_true] at h
    refine e (List.ext_getElem (hL.trans hM.symm) fun i h1 h2 => ?_)
    have := h i (by rw [List.mem_range'_1]; omega)
    rw [decide_eq_true_eq, getD_lt _ _ _ h1, getD_lt _ _ _ h2] at this
    exact this
theorem eq_intR (d : Nat) (a b : Int) (w : World) : (Op.equalIn (d + 1) 2 (.int .i64 a) (.int .i64 b)).run Try.prog w = .ok (a == b) w := by
  rw [Op.equalIn]
  simp only [Sem.run_bind, run_underlying Try.underlying2, Result.andThen_ok, if_true]
  rfl

theorem eq_arr5 (L M : List Int) (hL : L.length = 5) (hM : M.length = 5) (w : World) : (Op.equalIn 10000 96 (.agg (L.map (Value.int .i64)).toArray) (.agg (M.map (Value.int .i64)).toArray)).run Try.prog w = .ok (decide (L = M)) w := by
  have u3 := Try.underlying2
  have a3 := Try.isAgg2
  have z3 := Try.sizeOf2
  rw [show (10000 : Nat) = 9999 + 1 from rfl, Op.equalIn]
  simp only [Sem.run_bind, run_underlying und5, Result.andThen_ok]
  simp only [Std.Legacy.Range.forIn_eq_forIn_range', Std.Legacy.Range.size, Nat.sub_zero, Nat.add_sub_cancel, Nat.div_one]
  go_simp
  rw [forIn_eqR Try.prog w L M _ 5 0 (fun i h1 h2 => ?_)]
  · rw [eqF_allR L M 5 hL hM]
    by_cases e : L = M
    · rw [decide_eq_true e, if_pos rfl]; rfl
    · rw [decide_eq_false e, if_neg Bool.false_ne_true]; rfl
  · have l1 : i < L.length := by omega
    have l2 : i < M.length := by omega
    rw [getD_lt _ _ _ l1, getD_lt _ _ _ l2]
    simp only [List.getElem?_eq_getElem l1, List.getElem?_eq_getElem l2]
    generalize L[i] = a
    generalize M[i] = b
    have he : ∀ z, (Op.equalIn 9999 2 (.int .i64 a) (.int .i64 b)).run Try.prog z = .ok (a == b) z := fun z => eq_intR 9998 a b z
    by_cases e : a = b
    · subst e
      simp [a3, Sem.run_bind, he]
    · simp [a3, Sem.run_bind, he, e]
theorem guard_arr5 (x y : Operand) (s0 s1 s2 s3 s4 : Nat) (w : World) : (eqGuard .eql 96 x y (.agg #[.int .i64 (s0 : Int), .int .i64 (s1 : Int), .int .i64 (s2 : Int), .int .i64 (s3 : Int), .int .i64 (s4 : Int)]) (.agg #[.int .i64 12, .int .i64 3, .int .i64 2, .int .i64 1, .int .i64 0])).run Try.prog w = .ok () w := by
  have h : Try.prog.eqGuardType Try.prog.depth 96 = false := by kernel_rfl
  unfold eqGuard
  simp [go_sem, h]
def lowS (s0 s1 s2 s3 s4 : Nat) : Bool := decide ([s0, s1, s2, s3, s4] = [12, 3, 2, 1, 0])
theorem bin_arr5 (s0 s1 s2 s3 s4 : Nat) (w : World) : (binOp .eql 96 (.agg #[.int .i64 (s0 : Int), .int .i64 (s1 : Int), .int .i64 (s2 : Int), .int .i64 (s3 : Int), .int .i64 (s4 : Int)]) (.agg #[.int .i64 12, .int .i64 3, .int .i64 2, .int .i64 1, .int .i64 0])).run Try.prog w = .ok (.bool (lowS s0 s1 s2 s3 s4)) w := by
  have h := eq_arr5 [(s0 : Int), s1, s2, s3, s4] [12, 3, 2, 1, 0] rfl rfl w
  have e : binOp .eql 96 (.agg #[.int .i64 (s0 : Int), .int .i64 (s1 : Int), .int .i64 (s2 : Int), .int .i64 (s3 : Int), .int .i64 (s4 : Int)]) (.agg #[.int .i64 12, .int .i64 3, .int .i64 2, .int .i64 1, .int .i64 0]) = (do pure (.bool (← Op.equalIn 10000 96 (.agg #[.int .i64 (s0 : Int), .int .i64 (s1 : Int), .int .i64 (s2 : Int), .int .i64 (s3 : Int), .int .i64 (s4 : Int)]) (.agg #[.int .i64 12, .int .i64 3, .int .i64 2, .int .i64 1, .int .i64 0])))) := rfl
  have h2 : decide ([(s0 : Int), s1, s2, s3, s4] = [12, 3, 2, 1, 0]) = lowS s0 s1 s2 s3 s4 := by
    unfold lowS
    rw [decide_eq_decide]
    simp only [List.cons.injEq, and_true]
    omega
  rw [h2] at h
  rw [e, Sem.run_bind]
  refine Eq.trans (congrArg (fun r => Result.andThen r _) h) ?_
  rfl
def rowV (s0 s1 s2 s3 s4 m : Nat) : Nat × Bool := if lowS s0 s1 s2 s3 s4 = true then (3, true) else (s0, m == 1 && s0 == s4 + 4)
set_option maxRecDepth 100000 in
set_option maxHeartbeats 4000000 in
theorem rowTop_any (s0 s1 s2 s3 s4 m q : Nat) (one : Bool) (w : World) (h0 : s0 ≤ 12) (h4 : s4 ≤ 12) (hm : m ≤ 5) :
    Calls Try.prog 160 #[(.agg #[.int .i64 (s0 : Int), .int .i64 (s1 : Int), .int .i64 (s2 : Int), .int .i64 (s3 : Int), .int .i64 (s4 : Int), .int .i64 (m : Int), .int .i64 (q : Int), .bool one])] w fun e w' => e = .returned (.tuple #[.int .i64 ((rowV s0 s1 s2 s3 s4 m).1 : Nat), .bool (rowV s0 s1 s2 s3 s4 m).2]) ∧ Below w.heap.size w w' := by
  have hg := fun x y z => guard_arr5 x y s0 s1 s2 s3 s4 z
  have he := fun z => bin_arr5 s0 s1 s2 s3 s4 z
  unfold rowV
  cases hl : lowS s0 s1 s2 s3 s4
  · simp only [hl] at he
    rw [if_neg Bool.false_ne_true]
    have e1 : ((m : Int) == 1) = (m == 1) := by rw [Bool.eq_iff_iff, beq_iff_eq, beq_iff_eq]; omega
    have e2 : ((s0 : Int) - (s4 : Int) == 4) = (s0 == s4 + 4) := by rw [Bool.eq_iff_iff, beq_iff_eq, beq_iff_eq]; omega
    clear hl
    have hb := fun nq => below_drewN ((Below.refl _ w).alloc (Nat.le_refl _) (.cells #[.int .i64 (s0 : Int), .int .i64 (s1 : Int), .int .i64 (s2 : Int), .int .i64 (s3 : Int), .int .i64 (s4 : Int), .int .i64 (m : Int), .int .i64 (q : Int), .bool one] 98)) nq
    have Hb := Lib.hid hb
    clear hb
    cases hmm : (m == 1)
    · rw [hmm] at e1
      rw [Bool.false_and]
      go_enter Try.func160, Try.ntmps160
      go_wp2
      go_quiet (fail)
      go_wp2
      go_ret2
      exact ⟨rfl, Hb.out _⟩
    · rw [hmm] at e1
      rw [Bool.true_and]
      go_enter Try.func160, Try.ntmps160
      go_wp2
      go_quiet (fail)
      go_wp2
      go_ret2
      exact ⟨rfl, Hb.out _⟩
  · simp only [hl] at he
    rw [if_pos rfl]
    clear hl
    go_enter Try.func160, Try.ntmps160
    go_wp2
    go_ret2
    exact ⟨rfl, (Below.refl _ w).alloc (Nat.le_refl _) _⟩
def kindV (row one : Bool) (m q : Nat) : Nat :=
  if row && one then 8
  else if m == 4 then 7
  else if m == 3 && q == 2 then 6
  else if one then 5
  else if row then 4
  else if m == 3 then 3
  else if m == 2 && q == 2 then 2
  else if m == 2 then 1
  else 0
set_option maxRecDepth 100000 in
set_option maxHeartbeats 8000000 in
theorem kind_any (s0 s1 s2 s3 s4 m q : Nat) (one : Bool) (w : World) (h0 : s0 ≤ 12) (h4 : s4 ≤ 12) (hm : m ≤ 5) (hq : q ≤ 5) :
    Calls Try.prog 111 #[(.agg #[.int .i64 (s0 : Int), .int .i64 (s1 : Int), .int .i64 (s2 : Int), .int .i64 (s3 : Int), .int .i64 (s4 : Int), .int .i64 (m : Int), .int .i64 (q : Int), .bool one])] w fun e w' => e = .returned (.int .i64 (kindV (rowV s0 s1 s2 s3 s4 m).2 one m q : Nat)) ∧ Below w.heap.size w w' := by
  have HT := Lib.hid (fun z => rowTop_any s0 s1 s2 s3 s4 m q one z h0 h4 hm)
  generalize (rowV s0 s1 s2 s3 s4 m).1 = top at *
  generalize (rowV s0 s1 s2 s3 s4 m).2 = row at *
  have Hb := Lib.hid (fun w' (hb : Below (w.alloc (.cells #[.int .i64 (s0 : Int), .int .i64 (s1 : Int), .int .i64 (s2 : Int), .int .i64 (s3 : Int), .int .i64 (s4 : Int), .int .i64 (m : Int), .int .i64 (q : Int), .bool one] 98)).heap.size (w.alloc (.cells #[.int .i64 (s0 : Int), .int .i64 (s1 : Int), .int .i64 (s2 : Int), .int .i64 (s3 : Int), .int .i64 (s4 : Int), .int .i64 (m : Int), .int .i64 (q : Int), .bool one] 98)) w') => ((Below.refl _ w).alloc (Nat.le_refl _) _).trans (hb.mono (by simp)))
  have hc : ∀ w', Below (w.alloc (.cells #[.int .i64 (s0 : Int), .int .i64 (s1 : Int), .int .i64 (s2 : Int), .int .i64 (s3 : Int), .int .i64 (s4 : Int), .int .i64 (m : Int), .int .i64 (q : Int), .bool one] 98)).heap.size (w.alloc (.cells #[.int .i64 (s0 : Int), .int .i64 (s1 : Int), .int .i64 (s2 : Int), .int .i64 (s3 : Int), .int .i64 (s4 : Int), .int .i64 (m : Int), .int .i64 (q : Int), .bool one] 98)) w' → w'.heap[w.heap.size]? = some (.cells [.int .i64 (s0 : Int), .int .i64 (s1 : Int), .int .i64 (s2 : Int), .int .i64 (s3 : Int), .int .i64 (s4 : Int), .int .i64 (m : Int), .int .i64 (q : Int), .bool one].toArray 98 (0, 0)) := fun w' hb => (hb.block _ (by simp)).trans (World.alloc_heap_new w _)
  have HC := Lib.hid hc
  clear hc
  have em : ∀ k : Nat, ((m : Int) == (k : Int)) = (m == k) := fun k => by rw [Bool.eq_iff_iff, beq_iff_eq, beq_iff_eq]; omega
  have eq : ∀ k : Nat, ((q : Int) == (k : Int)) = (q == k) := fun k => by rw [Bool.eq_iff_iff, beq_iff_eq, beq_iff_eq]; omega
  have m4 : ((m : Int) == 4) = (m == 4) := em 4
  have m3 : ((m : Int) == 3) = (m == 3) := em 3
  have m2 : ((m : Int) == 2) = (m == 2) := em 2
  have q2 : ((q : Int) == 2) = (q == 2) := eq 2
  clear em eq
  have E := Lib.hid (show kindV row one m q = (if row && one then 8 else if m == 4 then 7 else if m == 3 && q == 2 then 6 else if one then 5 else if row then 4 else if m == 3 then 3 else if m == 2 && q == 2 then 2 else if m == 2 then 1 else 0) from rfl)
  generalize kindV row one m q = K at *
  cases row <;> cases one <;> cases h4m : (m == 4) <;> cases h3m : (m == 3) <;> cases h2m : (m == 2) <;> cases h2q : (q == 2)
  all_goals (
    rw [h4m] at m4
    rw [h3m] at m3
    rw [h2m] at m2
    rw [h2q] at q2
    rw [h4m, h3m, h2m, h2q] at E
    have E1 := Lib.hid (congrArg (fun k : Nat => (k : Int)) E.out)
    clear h4m h3m h2m h2q E
    go_enter Try.func111, Try.ntmps111
    go_wp2_with fail
    refine (HT.out _).mono ?_
    rintro e w1 ⟨rfl, hb1⟩
    have hh := HC.out _ hb1
    have c3 : w1.cell? ⟨w.heap.size, 7, none⟩ = _ := heap_cell hh 7 _ rfl
    have c1 : w1.cell? ⟨w.heap.size, 5, none⟩ = _ := heap_cell hh 5 _ rfl
    have c2 : w1.cell? ⟨w.heap.size, 6, none⟩ = _ := heap_cell hh 6 _ rfl
    have HB1 := Lib.hid (Hb.out _ hb1)
    clear hb1 hh HT HC Hb
    go_wp2
    go_ret
    exact ⟨ret_int E1.out.symm, HB1.out⟩)
end Go.Proofs.Ytodmaomngpnboaa
