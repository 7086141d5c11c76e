/- Decimal numerals, digit by digit, and rows of bytes. Nothing of a translation. -/
import Derived.Test.YtcoehcoohppbjacDoorLk
import Derived.Lib.ItoaNum
import Derived.Lib.ItoaMem
import Derived.Laws.BytesArg
import Derived.Laws.OwnMore
set_option linter.unusedVariables false
namespace Go.Proofs.YtcoehcoohppbjacDoor
open Go.RowKit
/-- the last j digits of a -/
def outL (a : Nat) : Nat → List UInt8
  | 0 => []
  | j + 1 => UInt8.ofNat (48 + a / 10 ^ j % 10) :: outL a j
theorem outL_len (a j : Nat) : (outL a j).length = j := by
  induction j with
  | zero => rfl
  | succ j ih => rw [outL, List.length_cons, ih]
theorem div_pow_succ (a j : Nat) : a / 10 ^ (j + 1) = a / 10 ^ j / 10 := by rw [Nat.pow_succ, Nat.div_div_eq_div_mul]
theorem out_dec (a : Nat) : ∀ j, (j = 0 ∨ a / 10 ^ j ≠ 0) → Lib.decDigits a = Lib.decDigits (a / 10 ^ j) ++ outL a j
  | 0, _ => by rw [Nat.pow_zero, Nat.div_one, outL, List.append_nil]
  | j + 1, h => by
    have h1 : a / 10 ^ (j + 1) ≠ 0 := by rcases h with h | h; · omega
                                         · exact h
    rw [div_pow_succ] at h1 ⊢
    have h2 : a / 10 ^ j ≠ 0 := fun e => h1 (by rw [e])
    rw [out_dec a j (.inr h2), outL]
    generalize a / 10 ^ j = u at *
    have e : Lib.decDigits u = Lib.decDigits (u / 10) ++ [UInt8.ofNat (48 + u % 10)] := by
      conv => lhs; rw [Lib.decDigits]
      exact dif_neg (by omega)
    rw [e, List.append_assoc]
    rfl
theorem out_done (a j : Nat) (hj : 1 ≤ j) (h : j = 1 ∨ a / 10 ^ (j - 1) ≠ 0) (h0 : a / 10 ^ j = 0) : Lib.decDigits a = outL a j := by
  obtain ⟨i, rfl⟩ : ∃ i, j = i + 1 := ⟨j - 1, by omega⟩
  rw [Nat.add_sub_cancel] at h
  rw [div_pow_succ] at h0
  rw [out_dec a i (h.imp (fun e => by omega) id), outL]
  generalize a / 10 ^ i = u at *
  rw [Lib.decDigits, dif_pos (by omega), Nat.mod_eq_of_lt (by omega)]
  rfl
theorem few_digits (a j : Nat) (ha : a < 10 ^ 19) (h : a / 10 ^ j ≠ 0) : j < 19 := by
  by_cases e : j < 19
  · exact e
  · exfalso
    apply h
    apply Nat.div_eq_of_lt
    exact Nat.lt_of_lt_of_le ha (Nat.pow_le_pow_right (by decide) (by omega))
/-- the bytes as numbers -/
def bsI (l : List UInt8) : List Int := l.map fun b => (b.toNat : Int)
theorem bsI_len (l : List UInt8) : (bsI l).length = l.length := by simp [bsI]
theorem strOf_bsI (l : List UInt8) : strOfNums (bsI l) = ⟨l.toArray⟩ := by
  unfold strOfNums bsI
  congr 1
  simp [List.map_map, Function.comp_def]
/-- v is a slice at the beginning of a block, which reads as these bytes -/
def Bs (w : World) (v : Value) (l : List UInt8) : Prop := ∃ g c, v = .slice (some ⟨g, 0, none⟩) l.length c ∧ g < w.heap.size ∧ ∀ i, i < l.length → w.cell? ⟨g, i, none⟩ = some (.int .u8 ((bsI l).getD i 0))
theorem Bs.later {w w' : World} {v : Value} {l : List UInt8} (h : Bs w v l) (hb : Below w.heap.size w w') : Bs w' v l := by
  obtain ⟨g, c, rfl, h1, h2⟩ := h
  exact ⟨g, c, rfl, Nat.lt_of_lt_of_le h1 hb.size, fun i hi => by rw [hb.cell h1]; exact h2 i hi⟩
/-- how long a slice is -/
def lenV : Value → Nat
  | .slice _ n _ => n
  | _ => 0
/-- a row of bytes that the call owns -/
theorem Bs.of_owns {w : World} {base : Nat} {e : TypeId} {v : Value} {l : List UInt8} {n : Nat} (h : w.ownsRow base e 1 v n ((bsI l).map (Value.int .u8))) (hl : l.length = n) (h1 : 1 ≤ n) : Bs w v l := by
  have h0 := h
  obtain ⟨hlen, hh⟩ := h
  rcases hh with ⟨_, h2⟩ | ⟨g, cap, cur, rfl, hb, hg, hc, _, _, ht⟩
  · omega
  · refine ⟨g, cap, by rw [hl], (h0.lt _ rfl).2, fun i hi => ?_⟩
    have hx : i < (bsI l).length := by rw [bsI_len]; exact hi
    rw [h0.cellAt i (by omega)]
    simp [List.getD, hx]
end Go.Proofs.YtcoehcoohppbjacDoor
