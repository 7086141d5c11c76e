/- Contracts: what five cards look like, in the specification. -/
import Derived.Test.YtodmaomngpnboaaHsI
import Derived.Maps.AppendAt
import Derived.Deep.Cut
set_option linter.unusedVariables false
namespace Go.Proofs.Ytodmaomngpnboaa
open Go.RowKit

theorem drop_c {C : List Nat} (hC : C.length = 13) (r : Nat) (hr : r < 13) : C.drop (13 - (r + 1)) = cAt C r :: C.drop (13 - r) := by
  unfold cAt
  rw [show 13 - (r + 1) = 12 - r by omega, getD_lt _ _ _ (by omega), List.drop_eq_getElem_cons (by omega), show 12 - r + 1 = 13 - r by omega]
theorem rkL_step (n : Nat) {C : List Nat} (hC : C.length = 13) (r : Nat) (hr : r < 13) : rkL n (C.drop (13 - (r + 1))) (r + 1) = if cAt C r = n then List.replicate n r ++ rkL n (C.drop (13 - r)) r else rkL n (C.drop (13 - r)) r := by
  rw [drop_c hC r hr, rkL_cons]
  by_cases e : cAt C r = n
  · rw [if_pos e, e, show Nat.beq n n = true by simp]; rfl
  · rw [if_neg e, show Nat.beq (cAt C r) n = false by rw [Bool.eq_false_iff]; exact fun h => e (Nat.eq_of_beq_eq_true h)]; rfl
theorem mnL_step (n : Nat) {C : List Nat} (hC : C.length = 13) (r : Nat) (hr : r < 13) : mnL n (C.drop (13 - (r + 1))) = if cAt C r = n then n :: mnL n (C.drop (13 - r)) else mnL n (C.drop (13 - r)) := by
  rw [drop_c hC r hr]
  show (bif Nat.beq (cAt C r) n then n :: mnL n (C.drop (13 - r)) else mnL n (C.drop (13 - r))) = _
  by_cases e : cAt C r = n
  · rw [if_pos e, e, show Nat.beq n n = true by simp]; rfl
  · rw [if_neg e, show Nat.beq (cAt C r) n = false by rw [Bool.eq_false_iff]; exact fun h => e (Nat.eq_of_beq_eq_true h)]; rfl
theorem rkL_end (n : Nat) {C : List Nat} (hC : C.length = 13) : rkL n (C.drop (13 - 0)) 0 = [] := by rw [List.drop_of_length_le (by omega)]; rfl
theorem mnL_end (n : Nat) {C : List Nat} (hC : C.length = 13) : mnL n (C.drop (13 - 0)) = [] := by rw [List.drop_of_length_le (by omega)]; rfl
theorem mnL_len (n : Nat) : ∀ d : List Nat, (mnL n d).length ≤ d.length
  | [] => Nat.le_refl _
  | x :: d => by
    have := mnL_len n d
    show (bif Nat.beq x n then n :: mnL n d else mnL n d).length ≤ d.length + 1
    cases Nat.beq x n
    · exact Nat.le_succ_of_le this
    · exact Nat.succ_le_succ this
theorem manC_len {C : List Nat} (hC : C.length = 13) : (manC C 4).length ≤ 52 := by
  have a := mnL_len 4 C
  have b := mnL_len 3 C
  have c := mnL_len 2 C
  have d := mnL_len 1 C
  show (mnL 4 C ++ (mnL 3 C ++ (mnL 2 C ++ (mnL 1 C ++ [])))).length ≤ 52
  simp only [List.length_append, List.length_nil]
  omega
theorem kindC_le (C : List Nat) (one : Bool) : kindC C one ≤ 8 := by
  unfold kindC
  dsimp only
  repeat (first | omega | split)
/-- two lists that grow, each in a block of its own -/
structure Own2 (w : World) (B : Nat) (ov : Value) (O : List Nat) (mv : Value) (M : List Nat) : Prop where
  o : w.ownsRow B 2 1 ov O.length ((ntI O).map (Value.int .i64))
  m : w.ownsRow B 2 1 mv M.length ((ntI M).map (Value.int .i64))
  ne : ov.ownBlock ≠ mv.ownBlock
theorem ntI_snoc (O : List Nat) (x : Nat) : (ntI (O ++ [x])).map (Value.int .i64) = (ntI O).map (Value.int .i64) ++ [.int .i64 (x : Int)] := by simp [ntI]
theorem Own2.putM {w w' : World} {B : Nat} {ov mv mv' : Value} {O M : List Nat} (h : Own2 w B ov O mv M) (o : Obj) (x : Nat) (hown : w'.ownsRow B 2 1 mv' (M.length + 1) ((ntI M).map (Value.int .i64) ++ [.int .i64 (x : Int)])) (hg : (w.alloc o).grownBy w' mv.ownBlock) (hat : mv'.ownBlock = mv.ownBlock ∨ mv'.ownBlock = some (w.alloc o).heap.size) : Own2 w' B ov O mv' (M ++ [x]) := by
  refine ⟨(h.o.alloc o).kept hg (.inr h.ne), by rw [ntI_snoc, List.length_append]; exact hown, ?_⟩
  rcases hat with e | e
  · rw [e]; exact h.ne
  · rw [e]; intro e2
    have := (h.o.lt _ e2).2
    simp at this
    omega
theorem Own2.putO {w w' : World} {B : Nat} {ov mv ov' : Value} {O M : List Nat} (h : Own2 w B ov O mv M) (o : Obj) (x : Nat) (hown : w'.ownsRow B 2 1 ov' (O.length + 1) ((ntI O).map (Value.int .i64) ++ [.int .i64 (x : Int)])) (hg : (w.alloc o).grownBy w' ov.ownBlock) (hat : ov'.ownBlock = ov.ownBlock ∨ ov'.ownBlock = some (w.alloc o).heap.size) : Own2 w' B ov' (O ++ [x]) mv M := by
  refine ⟨by rw [ntI_snoc, List.length_append]; exact hown, (h.m.alloc o).kept hg (.inr (fun e => h.ne e.symm)), ?_⟩
  rcases hat with e | e
  · rw [e]; exact h.ne
  · rw [e]; intro e2
    have := (h.m.lt _ e2.symm).2
    simp at this
    omega
theorem own_zeroJ (w : World) (base : Nat) (e : TypeId) (hb : base ≤ w.heap.size) : (w.alloc (.cells #[] e)).ownsRow base e 1 (.slice (some ⟨w.heap.size, 0, none⟩) 0 0) 0 [] :=
  World.ownsRow_made w #[] 0 hb (Nat.zero_le _) rfl
theorem Own2.start (w : World) : Own2 ((w.alloc (.cells #[] 2)).alloc (.cells #[] 2)) w.heap.size (.slice (some ⟨w.heap.size, 0, none⟩) 0 0) [] (.slice (some ⟨w.heap.size + 1, 0, none⟩) 0 0) [] := by
  refine ⟨(own_zeroJ w w.heap.size 2 (Nat.le_refl _)).alloc _, ?_, ?_⟩
  · have := own_zeroJ (w.alloc (.cells #[] 2)) w.heap.size 2 (by simp)
    rw [show (w.alloc (.cells #[] 2)).heap.size = w.heap.size + 1 by simp] at this
    exact this
  · intro e
    have : w.heap.size = w.heap.size + 1 := Option.some.inj e
    omega
theorem cwC_cnt (cs : List Nat) (h5 : cs.length = 5) : cntK cs 5 = cwC (cntL (cs.map (· % 13))) := by
  unfold cntK cwC
  refine tab_congr fun r hr => ?_
  rw [cntL_at _ r hr, List.take_of_length_le (by omega)]
theorem own2_grow {w0 w w' : World} {B : Nat} {v : Value} {n : Nat} {xs : List Value} (hb : Below B w0 w) (o : Obj) (hB : B ≤ w.heap.size) (hown : w.ownsRow B 2 1 v n xs) (hg : (w.alloc o).grownBy w' v.ownBlock) : Below B w0 w' :=
  (hb.alloc hB o).grown hg (by simp; omega) (fun b hb => (hown.lt b hb).1)
set_option maxRecDepth 100000 in
set_option maxHeartbeats 16000000 in
/-- the two lists of ranks -/
theorem lists_round (C : List Nat) (N r : Nat) (T U O M : List Nat) (hC : C.length = 13) (hr : r < 13) (hO : O ++ (rkL N (C.drop (13 - (r + 1))) (r + 1) ++ ordC C (N - 1)) = T) (hM : M ++ (mnL N (C.drop (13 - (r + 1))) ++ manC C (N - 1)) = U) :
    (cAt C r = N → O ++ (List.replicate N r ++ (rkL N (C.drop (13 - r)) r ++ ordC C (N - 1))) = T ∧ (M ++ [N]) ++ (mnL N (C.drop (13 - r)) ++ manC C (N - 1)) = U) ∧ (cAt C r ≠ N → O ++ (rkL N (C.drop (13 - r)) r ++ ordC C (N - 1)) = T ∧ M ++ (mnL N (C.drop (13 - r)) ++ manC C (N - 1)) = U) := by
  rw [rkL_step N hC r hr] at hO
  rw [mnL_step N hC r hr] at hM
  refine ⟨fun e => ?_, fun e => ?_⟩
  · rw [if_pos e] at hO hM
    exact ⟨by rw [← hO, List.append_assoc], by rw [← hM]; simp⟩
  · rw [if_neg e] at hO hM
    exact ⟨hO, hM⟩
end Go.Proofs.Ytodmaomngpnboaa
