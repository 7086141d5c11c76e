/- Contracts: the library's sort of five ranks, in the program. -/
import Derived.Test.YtodmaomngpnboaaHsB
set_option linter.unusedVariables false
namespace Go.Proofs.Ytodmaomngpnboaa
open Go.RowKit

set_option maxRecDepth 100000 in
set_option maxHeartbeats 4000000 in
theorem len64_5 (w : World) : Calls Try.prog 191 #[.int .u64 5] w fun e w' => e = .returned (.int .i64 3) ∧ w = w' := by
  go_enter Try.func191, Try.ntmps191
  go_wp2
  go_ret
  exact ⟨ret_int (by decide +kernel), rfl⟩
set_option maxHeartbeats 4000000 in
theorem len_5 (w : World) : Calls Try.prog 174 #[.int .u64 5] w fun e w' => e = .returned (.int .i64 3) ∧ w = w' := by
  have H := Lib.hid (fun z => len64_5 z)
  go_enter Try.func174, Try.ntmps174
  go_wp2_with (go_at_call 191; refine (H.out _).mono ?_; rintro e w' ⟨rfl, rfl⟩)
  go_ret
  exact ⟨ret_int rfl, rfl⟩
set_option maxRecDepth 100000 in
set_option maxHeartbeats 4000000 in
theorem pdqR_any (c R : List Nat) (G D : Nat) (w : World) (hn : R.length = 5) (hR : ∀ x ∈ R, x < 13) (hc : CntIn w G c) (hG : G < D) (hr : Sw (Value.int .i64) 0 w (.slice (some ⟨D, 0, none⟩) 5 5) (ntI R) D (D + 1)) :
    Calls Try.prog 176 #[.slice (some ⟨D, 0, none⟩) 5 5, .int .i64 0, .int .i64 5, .int .i64 3, .func (.func 157) #[] #[.pointer (some ⟨G, 0, none⟩)]] w fun e w' => e = .returned (.tuple #[]) ∧ (∃ l : List Nat, l.Perm R ∧ l.Pairwise (leR c) ∧ Sw (Value.int .i64) 0 w' (.slice (some ⟨D, 0, none⟩) 5 5) (ntI l) D (D + 1)) ∧ Below D w w' := by
  have H := Lib.hid (show Calls Try.prog 192 #[.slice (some ⟨D, 0, none⟩) 5 5, .int .i64 0, .int .i64 5, .func (.func 157) #[] #[.pointer (some ⟨G, 0, none⟩)]] w _ from insR_any c R 5 5 G D w hn (by omega) (by omega) hR hc hG hr)
  clear hn hR hc hG hr
  go_enter Try.func176, Try.ntmps176
  go_wp2
  go_loopw [1, 2, 3] (fun av bv cv wr => av = .int .i64 0 ∧ bv = .int .i64 5 ∧ cv = .int .i64 3 ∧ Hid (wr = w)) (fun _ _ _ _ => 0)
  case atStart => exact ⟨rfl, rfl, rfl, Lib.hid rfl⟩
  case round =>
    obtain ⟨rfl, rfl, rfl, hw⟩ := hrel
    obtain rfl := hw.out
    go_wp2_with (go_at_call 192; refine (H.out).mono ?_; rintro e w' ⟨rfl, hx, hb⟩; have Hx := Lib.hid hx; have Hb := Lib.hid hb; clear hx hb)
    (try simp only [Exit.inBlock, Exit.then]); refine bodyPost_ret (results_none rfl _ _ _) rfl ?_
    exact ⟨rfl, Hx.out, Hb.out⟩
set_option maxHeartbeats 4000000 in
theorem sortR_any (c R : List Nat) (G D : Nat) (w : World) (hn : R.length = 5) (hR : ∀ x ∈ R, x < 13) (hc : CntIn w G c) (hG : G < D) (hr : Sw (Value.int .i64) 0 w (.slice (some ⟨D, 0, none⟩) 5 5) (ntI R) D (D + 1)) :
    Calls Try.prog 156 #[.slice (some ⟨D, 0, none⟩) 5 5, .func (.func 157) #[] #[.pointer (some ⟨G, 0, none⟩)]] w fun e w' => e = .returned (.tuple #[]) ∧ (∃ l : List Nat, l.Perm R ∧ l.Pairwise (leR c) ∧ Sw (Value.int .i64) 0 w' (.slice (some ⟨D, 0, none⟩) 5 5) (ntI l) D (D + 1)) ∧ Below D w w' := by
  have H := Lib.hid (pdqR_any c R G D w hn hR hc hG hr)
  have HL := Lib.hid (fun z => len_5 z)
  clear hn hR hc hG hr
  go_enter Try.func156, Try.ntmps156
  go_wp2_with (first | (go_at_call 174; refine (HL.out _).mono ?_; rintro e w' ⟨rfl, rfl⟩) | (go_at_call 176; refine (H.out).mono ?_; rintro e w' ⟨rfl, hx, hb⟩; have Hx := Lib.hid hx; have Hb := Lib.hid hb; clear hx hb))
  go_end0
  exact ⟨rfl, Hx.out, Hb.out⟩
end Go.Proofs.Ytodmaomngpnboaa
