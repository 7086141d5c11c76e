/- Contracts: tests are such, in both texts. -/
import Derived.Test.YtfipcpbibmhjoaaSf
import Derived.Test.YtfipcpbibmhjoaaSo
import Derived.Test.YtfipcpbibmhjoaaSg
set_option linter.unusedVariables false
namespace Go.Proofs.Ytfipcpbibmhjoaa
open Go.RowKit
set_option maxHeartbeats 1000000 in
theorem countTest_any (n : Nat) (fs : List Int) (v : Value) (G : Nat) (bound caps : Array Value) (p : Nat → Bool) (w : World) (hn : n ≤ 1048576) (h : SlK 3 w v n fs)
    (hent : ∀ args w, (callFunc G args).run Try.prog w = .ok (.enter G args) w)
    (hc : ∀ k w', k < n → Below w.heap.size w w' → Calls Try.prog G (bound ++ #[.agg #[.int .i64 (fs.getD (k * 3) 0), .int .i64 (fs.getD (k * 3 + 1) 0), .int .i64 (fs.getD (k * 3 + 2) 0)]] ++ caps) w' fun e w'' => e = .returned (.bool (p k)) ∧ Below w'.heap.size w' w'') :
    Calls Try.prog 95 #[v, .func (.func G) bound caps] w fun e w' => e = .returned (.int .i64 ((cntQ p n : Nat) : Int)) ∧ Below w.heap.size w w' := by
  have Hc := Lib.hid hc
  clear hc
  obtain ⟨-, q, cap, rfl, hf⟩ := h
  have Hf := Lib.hid hf
  clear hf
  have Hle := Lib.hid (cntQ_le p)
  have Hst := Lib.hid (fun k => show cntQ p (k + 1) = cntQ p k + (if p k = true then 1 else 0) from rfl)
  go_enter Try.func95, Try.ntmps95
  go_wp2
  go_loopw [5, 10] (fun c i wr => ∃ k : Nat, k ≤ n ∧ i = .int .i64 (k : Int) ∧ c = .int .i64 ((cntQ p k : Nat) : Int) ∧ Hid (Below w.heap.size w wr)) (fun _ i _ => n - (intOf i).toNat)
  case atStart => exact ⟨0, Nat.zero_le _, rfl, rfl, Lib.hid (Below.refl _ _)⟩
  case round =>
    obtain ⟨k, hk, rfl, rfl, Hd⟩ := hrel
    have hsz := Hd.out.size
    have hle := Hle.out k
    by_cases hlt : k < n
    · obtain ⟨hcap, b, off, rfl, hbs, hcell⟩ := Hf.out (by omega)
      have c0 : wr.cell? ⟨b, off + k * 3, none⟩ = some (Value.int .i64 (fs.getD (k * 3) 0)) := by rw [Hd.out.cell hbs]; exact hcell (k * 3) (by omega)
      have c1 : wr.cell? ⟨b, off + k * 3 + 1, none⟩ = some (Value.int .i64 (fs.getD (k * 3 + 1) 0)) := by rw [Hd.out.cell hbs]; exact hcell (k * 3 + 1) (by omega)
      have c2 : wr.cell? ⟨b, off + k * 3 + 2, none⟩ = some (Value.int .i64 (fs.getD (k * 3 + 2) 0)) := by rw [Hd.out.cell hbs]; exact hcell (k * 3 + 2) (by omega)
      have Hcall := Lib.hid (Hc.out k _ hlt (Hd.out.alloc hsz (.cells #[.int .i64 (fs.getD (k * 3) 0), .int .i64 (fs.getD (k * 3 + 1) 0), .int .i64 (fs.getD (k * 3 + 2) 0)] 47)))
      have Hal := Lib.hid (Hd.out.alloc hsz (.cells #[.int .i64 (fs.getD (k * 3) 0), .int .i64 (fs.getD (k * 3 + 1) 0), .int .i64 (fs.getD (k * 3 + 2) 0)] 47))
      have hsz2 : w.heap.size ≤ (wr.alloc (.cells #[.int .i64 (fs.getD (k * 3) 0), .int .i64 (fs.getD (k * 3 + 1) 0), .int .i64 (fs.getD (k * 3 + 2) 0)] 47)).heap.size := by simp; omega
      have hst := Hst.out k
      clear hcell
      generalize fs.getD (k * 3) 0 = X at *
      generalize fs.getD (k * 3 + 1) 0 = Y at *
      generalize fs.getD (k * 3 + 2) 0 = Z at *
      cases hp : p k
      · rw [hp] at hst Hcall
        rw [if_neg Bool.false_ne_true, Nat.add_zero] at hst
        have Hst2 := Lib.hid hst
        clear hst hp
        generalize cntQ p k = C at *
        go_wp2_with (refine (Hcall.out).mono ?_; rintro e w' ⟨rfl, hb2⟩; have Hb2 := Lib.hid (Hal.out.trans (hb2.mono hsz2)); clear hb2)
        go_roundw
        case rel => exact ⟨k + 1, by omega, by go_num, by rw [Hst2.out]; first | rfl | go_num, Hb2⟩
        case measure => simp [intOf]; omega
      · rw [hp] at hst Hcall
        rw [if_pos rfl] at hst
        have Hst2 := Lib.hid hst
        clear hst hp
        generalize cntQ p k = C at *
        go_wp2_with (refine (Hcall.out).mono ?_; rintro e w' ⟨rfl, hb2⟩; have Hb2 := Lib.hid (Hal.out.trans (hb2.mono hsz2)); clear hb2)
        go_roundw
        case rel => exact ⟨k + 1, by omega, by go_num, by rw [Hst2.out]; first | rfl | go_num, Hb2⟩
        case measure => simp [intOf]; omega
    · obtain rfl : k = n := by omega
      go_wp2
      go_ret
      exact ⟨rfl, Hd.out⟩
def teB (x y z : Int) : Bool := (rB x 0 2 && rB y 0 2) && rB z 0 51
def teAt (fs : List Int) (k : Nat) : Bool := teB (fs.getD (k * 3) 0) (fs.getD (k * 3 + 1) 0) (fs.getD (k * 3 + 2) 0)
def testsB (n : Nat) (fs : List Int) : Bool := rB (n : Int) 1 6 && (List.range n).all (teAt fs)
theorem card_any (x : Int) (w : World) : Calls Try.prog 77 #[.int .i64 x] w fun e w' => e = .returned (.bool (rB x 0 51)) ∧ w = w' := by
  have H := Lib.hid (fun z => withinR_any x 0 51 z)
  generalize rB x 0 51 = R at *
  go_enter Try.func77, Try.ntmps77
  go_wp2_with (refine (H.out _).mono ?_; rintro e w' ⟨rfl, rfl⟩)
  go_ret
  exact ⟨rfl, rfl⟩
theorem field_words (w : World) : Calls Try.prog 75 #[] w fun e w' => (∃ p, e = .returned (.slice p 3 3)) ∧ Below w.heap.size w w' := by
  go_enter Try.func75, Try.ntmps75
  go_wp2
  go_ret
  exact ⟨⟨_, rfl⟩, (Below.refl _ w).alloc (Nat.le_refl _) _⟩
theorem sign_words (w : World) : Calls Try.prog 76 #[] w fun e w' => (∃ p, e = .returned (.slice p 3 3)) ∧ Below w.heap.size w w' := by
  go_enter Try.func76, Try.ntmps76
  go_wp2
  go_ret
  exact ⟨⟨_, rfl⟩, (Below.refl _ w).alloc (Nat.le_refl _) _⟩
set_option maxRecDepth 100000 in
set_option maxHeartbeats 4000000 in
theorem test_impl (x y z : Int) (w : World) :
    Calls Try.prog 41 #[.agg #[.int .i64 x, .int .i64 y, .int .i64 z]] w fun e w' => e = .returned (.bool (teB x y z)) ∧ Below w.heap.size w w' := by
  have H1 := Lib.hid (fun z => withinR_any x 0 2 z)
  have H2 := Lib.hid (fun z => withinR_any y 0 2 z)
  have H3 := Lib.hid (fun w => card_any z w)
  have HF := Lib.hid (fun w => field_words w)
  have HS := Lib.hid (fun w => sign_words w)
  have E := Lib.hid (show teB x y z = ((rB x 0 2 && rB y 0 2) && rB z 0 51) from rfl)
  generalize teB x y z = R at *
  generalize rB x 0 2 = r1 at *
  generalize rB y 0 2 = r2 at *
  generalize rB z 0 51 = r3 at *
  have Hb0 := Lib.hid ((Below.refl _ w).alloc (Nat.le_refl _) (.cells #[.int .i64 x, .int .i64 y, .int .i64 z] 47))
  go_enter Try.func41, Try.ntmps41
  go_wp2
  obtain ⟨k0, k1, k2⟩ := alloc3_cells w (Value.int .i64 x) (Value.int .i64 y) (Value.int .i64 z) 47
  generalize w.alloc (.cells #[Value.int .i64 x, Value.int .i64 y, Value.int .i64 z] 47) = u at *
  have hw2 : IntKind.i64.wrap 2 = 2 := by rfl
  cases r1
  · have E2 := Lib.hid (show R = false by rw [E.out]; simp)
    first | (go_region_law (first | (go_simp; go_at_call 75; refine (HF.out _).mono ?_; rintro e y1 ⟨⟨p5, rfl⟩, hb⟩; have k0' := cell_keep hb k0; have k1' := cell_keep hb k1; have k2' := cell_keep hb k2; have Y1 := Lib.hid (below_step (below_drewN Hb0.out _) hb (Nat.le_refl _)); clear hb) | (go_simp; go_at_call 69; (with_reducible refine (H1.out _).mono ?_); rintro e w' ⟨rfl, rfl⟩))) | done
    all_goals
      go_wp2
      go_ret
      first | exact ⟨ret_bool E2.out.symm, below_drewN Y1.out _⟩ | exact ⟨ret_bool E2.out.symm, Y1.out⟩
  cases r2
  · have E2 := Lib.hid (show R = false by rw [E.out]; simp)
    first | (go_region_law (first | (go_simp; go_at_call 75; refine (HF.out _).mono ?_; rintro e y1 ⟨⟨p5, rfl⟩, hb⟩; have k0' := cell_keep hb k0; have k1' := cell_keep hb k1; have k2' := cell_keep hb k2; have Y1 := Lib.hid (below_step (below_drewN Hb0.out _) hb (Nat.le_refl _)); clear hb) | (go_simp; go_at_call 76; refine (HS.out _).mono ?_; rintro e y2 ⟨⟨p6, rfl⟩, hb⟩; have k1'' := cell_keep hb k1'; have k2'' := cell_keep hb k2'; have Y2 : Hid (Below w.heap.size w y2) := Lib.hid (by first | exact below_step Y1.out hb (Nat.le_refl _) | exact below_step (below_drewN Y1.out _) hb (Nat.le_refl _)); clear hb) | (go_simp; go_at_call 69; (with_reducible refine (H1.out _).mono ?_); rintro e w' ⟨rfl, rfl⟩) | (go_simp; go_at_call 69; (with_reducible refine (H2.out _).mono ?_); rintro e w' ⟨rfl, rfl⟩))) | done
    all_goals
      go_wp2
      go_ret
      first | exact ⟨ret_bool E2.out.symm, below_drewN Y2.out _⟩ | exact ⟨ret_bool E2.out.symm, Y2.out⟩
  have E2 := Lib.hid (show R = r3 by rw [E.out]; simp)
  go_region_law (first | (go_simp; go_at_call 75; refine (HF.out _).mono ?_; rintro e y1 ⟨⟨p5, rfl⟩, hb⟩; have k0' := cell_keep hb k0; have k1' := cell_keep hb k1; have k2' := cell_keep hb k2; have Y1 := Lib.hid (below_step (below_drewN Hb0.out _) hb (Nat.le_refl _)); clear hb) | (go_simp; go_at_call 76; refine (HS.out _).mono ?_; rintro e y2 ⟨⟨p6, rfl⟩, hb⟩; have k1'' := cell_keep hb k1'; have k2'' := cell_keep hb k2'; have Y2 : Hid (Below w.heap.size w y2) := Lib.hid (by first | exact below_step Y1.out hb (Nat.le_refl _) | exact below_step (below_drewN Y1.out _) hb (Nat.le_refl _)); clear hb) | (go_simp; go_at_call 69; (with_reducible refine (H1.out _).mono ?_); rintro e w' ⟨rfl, rfl⟩) | (go_simp; go_at_call 69; (with_reducible refine (H2.out _).mono ?_); rintro e w' ⟨rfl, rfl⟩) | (go_simp; go_at_call 77; (with_reducible refine (H3.out _).mono ?_); rintro e w' ⟨rfl, rfl⟩))
  all_goals
    go_wp2
    go_ret
    first | exact ⟨ret_bool E2.out.symm, below_drewN Y2.out _⟩ | exact ⟨ret_bool E2.out.symm, Y2.out⟩
set_option maxHeartbeats 1000000 in
theorem test_spec (x y z : Int) (b o : Nat) (w : World) (c0 : w.cell? ⟨b, o, none⟩ = some (.int .i64 x)) (c1 : w.cell? ⟨b, o + 1, none⟩ = some (.int .i64 y)) (c2 : w.cell? ⟨b, o + 2, none⟩ = some (.int .i64 z)) :
    Calls Try.prog 74 #[.pointer (some ⟨b, o, none⟩)] w fun e w' => e = .returned (.bool (teB x y z)) ∧ w = w' := by
  have H1 := Lib.hid (fun z => inR_any x 0 2 z)
  have H2 := Lib.hid (fun z => inR_any y 0 2 z)
  have H3 := Lib.hid (fun w => inR_any z 0 51 w)
  have E := Lib.hid (show teB x y z = ((rB x 0 2 && rB y 0 2) && rB z 0 51) from rfl)
  generalize teB x y z = R at *
  generalize rB x 0 2 = r1 at *
  generalize rB y 0 2 = r2 at *
  generalize rB z 0 51 = r3 at *
  cases r1
  · have E2 := Lib.hid (show R = false by rw [E.out]; simp)
    go_enter Try.func74, Try.ntmps74
    go_wp2_with (first | (go_at_call 79; (with_reducible refine (H1.out _).mono ?_); rintro e w' ⟨rfl, rfl⟩))
    go_ret
    exact ⟨ret_bool E2.out.symm, rfl⟩
  cases r2
  · have E2 := Lib.hid (show R = false by rw [E.out]; simp)
    go_enter Try.func74, Try.ntmps74
    go_wp2_with (first | (go_at_call 79; (with_reducible refine (H1.out _).mono ?_); rintro e w' ⟨rfl, rfl⟩) | (go_at_call 79; (with_reducible refine (H2.out _).mono ?_); rintro e w' ⟨rfl, rfl⟩))
    go_ret
    exact ⟨ret_bool E2.out.symm, rfl⟩
  have E2 := Lib.hid (show R = r3 by rw [E.out]; simp)
  go_enter Try.func74, Try.ntmps74
  go_wp2_with (first | (go_at_call 79; (with_reducible refine (H1.out _).mono ?_); rintro e w' ⟨rfl, rfl⟩) | (go_at_call 79; (with_reducible refine (H2.out _).mono ?_); rintro e w' ⟨rfl, rfl⟩) | (go_at_call 79; (with_reducible refine (H3.out _).mono ?_); rintro e w' ⟨rfl, rfl⟩))
  go_ret
  exact ⟨ret_bool E2.out.symm, rfl⟩
def ok_ValidTest (x y z : Int) : Bool := teB x y z
theorem impl_ValidTest (x y z : Int) (w : World) :
    Calls Try.prog 41 #[.agg #[.int .i64 x, .int .i64 y, .int .i64 z]] w fun e w' => e = .returned (.bool (ok_ValidTest x y z)) ∧ Below w.heap.size w w' := test_impl x y z w
theorem spec_ValidTest (x y z : Int) (w : World) :
    Calls Try.prog 39 #[.agg #[.int .i64 x, .int .i64 y, .int .i64 z]] w fun e w' => e = .returned (.bool (ok_ValidTest x y z)) ∧ Below w.heap.size w w' := by
  unfold ok_ValidTest
  obtain ⟨k0, k1, k2⟩ := alloc3_cells w (Value.int .i64 x) (Value.int .i64 y) (Value.int .i64 z) 47
  have H := Lib.hid (test_spec x y z w.heap.size 0 _ k0 k1 k2)
  have Hb0 := Lib.hid ((Below.refl _ w).alloc (Nat.le_refl _) (.cells #[.int .i64 x, .int .i64 y, .int .i64 z] 47))
  generalize teB x y z = R at *
  go_enter Try.func39, Try.ntmps39
  go_wp2_with (refine (H.out).mono ?_; rintro e w' ⟨rfl, rfl⟩)
  go_ret
  exact ⟨rfl, Hb0.out⟩
end Go.Proofs.Ytfipcpbibmhjoaa
