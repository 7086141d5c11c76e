/- Contracts: a word in a ring. -/
import Derived.Test.YtolmhnekfokpdacGa
import Derived.RegionTactic
import Derived.BigQuiet
set_option linter.unusedVariables false
namespace Go.Proofs.Ytolmhnekfokpdac
open Go.RowKit

def ringAt (fs : List Int) (i k : Nat) : Int := fs.getD ((i + k) % fs.length) 0
def goodR (fs gs : List Int) (i : Nat) : Nat → Bool
  | 0 => true
  | k + 1 => goodR fs gs i k && (ringAt fs i k == gs.getD k 0)
def findW (fs gs : List Int) : Option Nat := (List.range fs.length).find? (fun i => goodR fs gs i gs.length)
def okWd (fs gs : List Int) : Bool := bitsB fs 64 && bitsB gs 6 && decide (gs.length ≤ fs.length)
def ok_WordAt (fs gs : List Int) : Bool := okWd fs gs && (findW fs gs).isSome
def res_WordAt (fs gs : List Int) : Int := if okWd fs gs = true then (((findW fs gs).getD 0 : Nat) : Int) else 0
theorem word_no (fs gs : List Int) (h : okWd fs gs = false) : ok_WordAt fs gs = false ∧ res_WordAt fs gs = 0 := by
  unfold ok_WordAt res_WordAt
  rw [h]; exact ⟨rfl, rfl⟩
theorem word_some (fs gs : List Int) (i n m : Nat) (hn : fs.length = n) (hm : gs.length = m) (h : okWd fs gs = true) (hi : i < n) (hg : goodR fs gs i m = true) (hb : ∀ j, j < i → goodR fs gs j m = false) : ok_WordAt fs gs = true ∧ res_WordAt fs gs = (i : Int) := by
  subst hn hm
  have e : findW fs gs = some i := by
    unfold findW
    rw [List.find?_range_eq_some]
    exact ⟨hg, List.mem_range.2 hi, fun j hj => by rw [hb j hj]; rfl⟩
  unfold ok_WordAt res_WordAt
  rw [h, e]; exact ⟨rfl, rfl⟩
theorem word_none (fs gs : List Int) (n m : Nat) (hn : fs.length = n) (hm : gs.length = m) (h : okWd fs gs = true) (hb : ∀ j, j < n → goodR fs gs j m = false) : ok_WordAt fs gs = false ∧ res_WordAt fs gs = 0 := by
  subst hn hm
  have e : findW fs gs = none := by
    unfold findW
    rw [List.find?_eq_none]
    intro j hj
    rw [hb j (List.mem_range.1 hj)]
    exact Bool.noConfusion
  unfold ok_WordAt res_WordAt
  rw [h, e]; exact ⟨rfl, rfl⟩
theorem good_step (fs gs : List Int) (i k : Nat) : goodR fs gs i (k + 1) = (goodR fs gs i k && (ringAt fs i k == gs.getD k 0)) := rfl
theorem tmod_nat (i k n : Nat) : Int.tmod ((i : Int) + (k : Int)) (n : Int) = (((i + k) % n : Nat) : Int) := rfl

