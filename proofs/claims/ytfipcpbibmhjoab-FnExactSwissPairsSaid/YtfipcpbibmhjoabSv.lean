/- Contracts: who is left behind each round: pure, and the program. -/
import Derived.Test.YtfipcpbibmhjoabSf
import Derived.Test.YtfipcpbibmhjoabSg
import Derived.Test.YtfipcpbibmhjoabDb
import Derived.Test.YtfipcpbibmhjoabDc
set_option linter.unusedVariables false
namespace Go.Proofs.Ytfipcpbibmhjoab
open Go.RowKit
theorem own_addK {w : World} {base : Nat} {e : TypeId} {v : Value} {l : List Int} {x : Int} (h : w.ownsRow base e 1 v (l.length + 1) (l.map (Value.int .i64) ++ [.int .i64 x])) : w.ownsRow base e 1 v (l ++ [x]).length ((l ++ [x]).map (Value.int .i64)) := by
  rw [List.length_append, List.map_append]; exact h
/-- all that have come behind j games -/
def cameL (p : Nat) (ws : List Bool) : Nat → List Int
  | 0 => tab p (fun k => (k : Int))
  | j + 1 => cameL p ws j ++ [(cameL p ws j).getD (if ws.getD j false = true then 2 * j else 2 * j + 1) 0]
theorem cameL_len (p : Nat) (ws : List Bool) : ∀ j, (cameL p ws j).length = p + j
  | 0 => tab_len _ _
  | j + 1 => by rw [cameL, List.length_append, cameL_len p ws j]; rfl
theorem cameL_get (p : Nat) (ws : List Bool) (j i : Nat) (h : i < p + j) : ∀ d, (cameL p ws (j + d)).getD i 0 = (cameL p ws j).getD i 0
  | 0 => rfl
  | d + 1 => by
    rw [← cameL_get p ws j i h d]
    show (cameL p ws (j + d) ++ [_]).getD i 0 = _
    simp only [List.getD]
    rw [List.getElem?_append_left (by rw [cameL_len]; omega)]
def upB (P : Int) : Bool := decide (P = 2 ∨ P = 4 ∨ P = 8 ∨ P = 16)
def knB (ws : List Bool) (P : Int) : Bool := upB P && decide ((ws.length : Int) = P - 1)
def ok_KnockRounds (ws : List Bool) (P : Int) : Bool := knB ws P
def res_KnockRounds (ws : List Bool) (P : Int) : List Int := if knB ws P = true then (cameL P.toNat ws ws.length).drop P.toNat else []
theorem len_KnockRounds (ws : List Bool) (P : Int) : (res_KnockRounds ws P).length ≤ 1048576 := by
  unfold res_KnockRounds
  split
  · rename_i h
    unfold knB upB at h
    rw [Bool.and_eq_true] at h
    have h1 := of_decide_eq_true h.1
    have h2 := of_decide_eq_true h.2
    rw [List.length_drop, cameL_len]
    omega
  · exact Nat.zero_le _
set_option maxHeartbeats 1000000 in
theorem deckBy_own (n K : Nat) (caps : Array Value) (g : Nat → Int) (w : World) (hn : n ≤ 1048576)
    (hent : ∀ args w, (callFunc K args).run Try.prog w = .ok (.enter K args) w)
    (hc : ∀ k w', k < n → Below w.heap.size w w' → Calls Try.prog K (#[.int .i64 (k : Int)] ++ caps) w' fun e w'' => e = .returned (.int .i64 (g k)) ∧ Drawn w' w'') :
    Calls Try.prog 97 #[.int .i64 (n : Int), .func (.func K) #[] caps] w fun e w' => e = .returned (.slice (some ⟨w.heap.size, 0, none⟩) n n) ∧ w'.ownsRow w.heap.size 2 1 (.slice (some ⟨w.heap.size, 0, none⟩) n n) n ((tab n g).map (Value.int .i64)) ∧ Below w.heap.size w w' := by
  obtain ⟨i0, hi, hz0, hz1, hz2⟩ := info_parts (show (Try.prog.info? 2).map (fun i => (i.zero, i.size, i.bytes)) = some (some (.int .i64 0), 1, 8) by kernel_rfl)
  have Hc := Lib.hid hc
  clear hc
  go_enter Try.func97, Try.ntmps97
  go_wp2_with (at_make; refine wpList_make_full _ rfl _ _ 22 rfl w.heap.size 2 i0 (.int .i64 0) 1 (by kernel_rfl) hi hz0 hz1 .i64 .i64 n n n rfl rfl rfl rfl (by rw [hz2]; omega) (by unfold maxLen; omega) (Nat.le_refl _) ?_; intro w1 hown hgrow)
  have hbel : Below w.heap.size w w1 := (Below.refl _ w).grown hgrow (Nat.le_refl _) (by simp)
  have Hown := Lib.hid hown
  have Hbel := Lib.hid hbel
  clear hown hbel hgrow
  go_loopw [10] (fun i wr => ∃ k : Nat, k ≤ n ∧ i = .int .i64 k ∧ wr.ownsRow w.heap.size 2 1 (.slice (some ⟨w.heap.size, 0, none⟩) n n) n ((filled n g k).map (Value.int .i64)) ∧ Below w.heap.size w wr) (fun i _ => n - (intOf i).toNat)
  case atStart =>
    refine ⟨0, Nat.zero_le _, rfl, ?_, Hbel.out⟩
    have h0 := Hown.out
    have e : (madeCells (Value.int .i64 0).cells (n * 1)).toList = (filled n g 0).map (Value.int .i64) := by
      rw [filled_zero, Nat.mul_one, List.map_replicate]
      exact made1 _ n
    rw [e] at h0
    exact h0
  case round =>
    obtain ⟨k, hk, rfl, hown, hb⟩ := hrel
    have Hown := Lib.hid hown
    have Hb := Lib.hid hb
    have hsz := hb.size
    clear hown hb
    by_cases hlt : k < n
    · have Hcall := Lib.hid (Hc.out k wr hlt Hb.out)
      have c2 : wr.cell? ⟨w.heap.size, k, none⟩ = some (.int .i64 0) := by
        rw [Hown.out.cellAt k (by omega), List.getElem?_map, filled_at n g k hlt]; rfl
      have c3 := Hown.out.frozenAt k
      obtain ⟨hs1, _⟩ := Hown.out.stored k (.int .i64 (g k))
      rw [← List.map_set, filled_set n g k hlt] at hs1
      have Hs1 := Lib.hid hs1
      clear hs1
      go_wp2_with (refine (Hcall.out).mono ?_; rintro e w' ⟨rfl, m, rfl⟩)
      go_roundw
      case rel => exact ⟨k + 1, by omega, by go_num, Hs1.out, below_drewN (Hb.out.setCell (Nat.le_refl _) _) _⟩
      case measure => simp [intOf]; omega
    · obtain rfl : k = n := by omega
      go_wp2
      go_ret
      have h0 := Hown.out
      rw [filled_done] at h0
      exact ⟨rfl, h0, Hb.out⟩
theorem pow_eq (P : Int) (h1 : 2 ≤ P) (h2 : P ≤ 16) : (bits BinOp.and IntKind.i64 P (P - 1) == 0) = upB P := by
  rcases (show P = 2 ∨ P = 3 ∨ P = 4 ∨ P = 5 ∨ P = 6 ∨ P = 7 ∨ P = 8 ∨ P = 9 ∨ P = 10 ∨ P = 11 ∨ P = 12 ∨ P = 13 ∨ P = 14 ∨ P = 15 ∨ P = 16 by omega) with rfl | rfl | rfl | rfl | rfl | rfl | rfl | rfl | rfl | rfl | rfl | rfl | rfl | rfl | rfl <;> decide +kernel
theorem upB_at {P : Int} (h : upB P = true) : 2 ≤ P ∧ P ≤ 16 := by
  have := of_decide_eq_true h
  omega
