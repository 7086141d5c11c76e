/- Texts cut at commas, pure. Nothing of a translation. -/
import Derived.Test.YtcoehcoohppbjacDoorCl
import Derived.Lib.SplitLaws
import Derived.Lib.IndexBytes
set_option linter.unusedVariables false
namespace Go.Proofs.YtcoehcoohppbjacDoor
def cutL : List UInt8 → List (List UInt8)
  | [] => [[]]
  | b :: r => if b = 44 then [] :: cutL r else match cutL r with
    | [] => [[b]]
    | h :: t => (b :: h) :: t
theorem ib_cons (b : UInt8) (r : List UInt8) (h : b ≠ 44) : Lib.indexByte (b :: r) 44 = if Lib.indexByte r 44 = -1 then -1 else Lib.indexByte r 44 + 1 := by
  rw [Lib.indexByte, if_neg (by simpa using h)]
  by_cases h1 : Lib.indexByte r 44 = -1
  · rw [if_pos (by rw [h1]; decide), if_pos h1]
  · rw [if_neg (by simpa using h1), if_neg h1]
theorem ib_hit (r : List UInt8) : Lib.indexByte (44 :: r) 44 = 0 := by
  rw [Lib.indexByte, if_pos (by decide)]
theorem ib_low (r : List UInt8) : -1 ≤ Lib.indexByte r 44 := by
  induction r with
  | nil => exact Int.le_refl _
  | cons b r ih =>
    by_cases h : b = 44
    · subst h; rw [ib_hit]; decide
    · rw [ib_cons b r h]; split <;> omega
theorem split_cut (l : List UInt8) : Lib.splitK [44] 0 (Lib.count l [44]) l = cutL l := by
  induction l with
  | nil => rfl
  | cons b r ih =>
    by_cases h : b = 44
    · subst h
      rw [Lib.count_cons_eq, Nat.add_comm, Lib.splitK, Lib.index_one, ib_hit, if_neg (by decide), cutL, if_pos rfl]
      show [] :: Lib.splitK [44] 0 (Lib.count r [44]) r = _
      rw [ih]
    · rw [Lib.count_cons_ne b 44 r h, cutL, if_neg h, ← ih]
      cases hk : Lib.count r [44] with
      | zero => rfl
      | succ k =>
        rw [Lib.splitK, Lib.splitK, Lib.index_one, Lib.index_one, ib_cons b r h]
        have hl := ib_low r
        by_cases hm : Lib.indexByte r 44 = -1
        · rw [if_pos hm, if_pos (by decide), if_pos (by rw [hm]; decide)]
        · obtain ⟨i, hi⟩ : ∃ i : Nat, Lib.indexByte r 44 = i := ⟨(Lib.indexByte r 44).toNat, by omega⟩
          rw [if_neg hm, hi, if_neg (by simp; omega), if_neg (by simp)]
          have e : ((i : Int) + 1).toNat = i + 1 := by omega
          rw [e, Int.toNat_natCast]
          rfl
theorem cut_hit (p r : List UInt8) (h : ∀ b ∈ p, b ≠ 44) : cutL (p ++ 44 :: r) = p :: cutL r := by
  induction p with
  | nil => rfl
  | cons b p ih =>
    rw [List.cons_append, cutL, if_neg (h b (List.mem_cons_self ..)), ih (fun c hc => h c (List.mem_cons_of_mem _ hc))]
theorem cut_miss (p : List UInt8) (h : ∀ b ∈ p, b ≠ 44) : cutL p = [p] := by
  induction p with
  | nil => rfl
  | cons b p ih =>
    rw [cutL, if_neg (h b (List.mem_cons_self ..)), ih (fun c hc => h c (List.mem_cons_of_mem _ hc))]
end Go.Proofs.YtcoehcoohppbjacDoor
