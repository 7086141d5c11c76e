/- Contracts: names, in both texts. -/
import Derived.Test.YtcoehcoohppbjaaNum
import Derived.Laws.RangeAny
import Derived.Lib.Hide
set_option linter.unusedVariables false
namespace Go.Proofs.Ytcoehcoohppbjaa
open Go.RowKit Fl

def letter (b : UInt8) : Bool := decide (97 ≤ b.toNat ∧ b.toNat ≤ 122)
def nameB (l : List UInt8) : Bool := decide (1 ≤ l.length ∧ l.length ≤ 8) && l.all letter
theorem name_bad (s : ByteArray) (k : Nat) (h : k < s.size) (hb : s[k].toNat < 97 ∨ 122 < s[k].toNat) : nameB s.data.toList = false := by
  unfold nameB
  rw [Bool.and_eq_false_iff]
  right
  rw [Bool.eq_false_iff]
  intro ha
  have := List.all_eq_true.1 ha s[k] (by
    have : s.data.toList[k]'(by simpa using h) = s[k] := rfl
    rw [← this]; exact List.getElem_mem _)
  unfold letter at this
  have := of_decide_eq_true this
  omega
theorem name_good (s : ByteArray) (ha : ∀ i (h : i < s.size), 97 ≤ s[i].toNat ∧ s[i].toNat ≤ 122) : nameB s.data.toList = decide (1 ≤ s.size ∧ s.size ≤ 8) := by
  have : s.data.toList.all letter = true := by
    rw [List.all_eq_true]
    intro b hb
    obtain ⟨i, hi, rfl⟩ := List.getElem_of_mem hb
    exact decide_eq_true (ha i (by simpa using hi))
  unfold nameB
  rw [this, Bool.and_true]
  rfl


set_option maxHeartbeats 400000 in
theorem name_any (s : ByteArray) (hs : s.size ≤ maxLen) (w : World) :
    Calls Try.prog 74 #[.string s] w fun e w' => e = .returned (.bool (nameB s.data.toList)) ∧ Below w.heap.size w w' := by
  unfold maxLen at hs
  by_cases hlen : 1 ≤ s.size ∧ s.size ≤ 8
  · obtain ⟨l1, l2⟩ := hlen
    have d1 : decide ((s.size : Int) < 1) = false := decide_eq_false (by omega)
    have d2 : decide (8 < (s.size : Int)) = false := decide_eq_false (by omega)
    go_enter Try.func74, Try.ntmps74
    go_wp2
    go_loopw [] (fun wr => ∃ k : Nat, k ≤ s.size ∧ wr = w.iter s k ∧ Hid (∀ j (h : j < s.size), j < k → 97 ≤ s[j].toNat ∧ s[j].toNat ≤ 122)) (fun wr => s.size - wr.iterPos w.heap.size)
    case atStart => exact ⟨0, Nat.zero_le _, rfl, fun j h hj => absurd hj (by omega)⟩
    case round =>
      obtain ⟨k, hk, rfl, ha⟩ := hrel
      by_cases hlt : k < s.size
      · by_cases h7 : s[k].toNat < 128
        · have hnx : ∀ ty, (Instr.next (.pointer (some ⟨w.heap.size, 0, none⟩)) true ty).run Try.prog (w.iter s k) = _ := fun ty => run_next_ascii w s k ty hlt h7
          by_cases h1 : (s[k].toNat : Int) < 97
          · have hbad := name_bad s k hlt (.inl (by omega))
            have Hbad := Lib.hid hbad
            have e1 : decide ((s[k].toNat : Int) < 97) = true := decide_eq_true h1
            clear hbad
            go_wp2
            go_ret
            exact ⟨ret_bool Hbad.out.symm, (Below.refl _ _).alloc (Nat.le_refl _) _⟩
          · have e1 : decide ((s[k].toNat : Int) < 97) = false := decide_eq_false h1
            by_cases h2 : 122 < (s[k].toNat : Int)
            · have hbad := name_bad s k hlt (.inr (by omega))
              have Hbad := Lib.hid hbad
              have e2 : decide (122 < (s[k].toNat : Int)) = true := decide_eq_true h2
              clear hbad
              go_wp2
              go_ret
              exact ⟨ret_bool Hbad.out.symm, (Below.refl _ _).alloc (Nat.le_refl _) _⟩
            · have e2 : decide (122 < (s[k].toNat : Int)) = false := decide_eq_false h2
              go_wp2
              go_roundw
              case rel =>
                refine ⟨k + 1, by omega, rfl, fun j h hj => ?_⟩
                by_cases e : j = k
                · subst e; omega
                · exact ha.out j h (by omega)
              case measure => simp; omega
        · have hnx : ∀ ty, (Instr.next (.pointer (some ⟨w.heap.size, 0, none⟩)) true ty).run Try.prog (w.iter s k) = _ := fun ty => run_next_any w s k ty hlt
          obtain ⟨g1, g2⟩ := decode_high s k hlt (by omega)
          have hbad := name_bad s k hlt (.inr (by omega))
          have Hbad := Lib.hid hbad
          have e1 : decide (((Utf8.decode s k).1 : Int) < 97) = false := decide_eq_false (by omega)
          have e2 : decide (122 < ((Utf8.decode s k).1 : Int)) = true := decide_eq_true (by omega)
          clear hbad
          go_wp2
          go_ret
          exact ⟨ret_bool Hbad.out.symm, (Below.refl _ _).alloc (Nat.le_refl _) _⟩
      · obtain rfl : k = s.size := by omega
        have hnx : ∀ ty, (Instr.next (.pointer (some ⟨w.heap.size, 0, none⟩)) true ty).run Try.prog (w.iter s s.size) = _ := fun ty => run_next_end w s s.size ty hlt
        have Hg := Lib.hid (name_good s (fun i h => ha.out i h h))
        clear ha
        go_wp2
        go_ret
        refine ⟨ret_bool ?_, (Below.refl _ _).alloc (Nat.le_refl _) _⟩
        rw [Hg.out, eq_comm]
        exact decide_eq_true ⟨l1, l2⟩
  · have hno : nameB s.data.toList = false := by
      unfold nameB
      rw [Bool.and_eq_false_iff]
      left
      exact decide_eq_false hlen
    have Hno := Lib.hid hno
    clear hno
    have hlen' : s.size < 1 ∨ 8 < s.size := by omega
    rcases hlen' with h | h
    · have d1 : decide ((s.size : Int) < 1) = true := decide_eq_true (by omega)
      go_enter Try.func74, Try.ntmps74
      go_wp2
      go_ret
      exact ⟨ret_bool Hno.out.symm, Below.refl _ _⟩
    · have d1 : decide ((s.size : Int) < 1) = false := decide_eq_false (by omega)
      have d2 : decide (8 < (s.size : Int)) = true := decide_eq_true (by omega)
      go_enter Try.func74, Try.ntmps74
      go_wp2
      go_ret
      exact ⟨ret_bool Hno.out.symm, Below.refl _ _⟩
end Go.Proofs.Ytcoehcoohppbjaa
