/- Contracts: tiles are such, in both texts. -/
import Derived.Test.YtfipcpbibmhjoaaSf
import Derived.Test.YtfipcpbibmhjoaaSo
set_option linter.unusedVariables false
namespace Go.Proofs.Ytfipcpbibmhjoaa
open Go.RowKit
def tlB (x y : Int) : Bool := rB x 0 6 && rB y 0 6
def tlAt (fs : List Int) (k : Nat) : Bool := tlB (fs.getD (k * 2) 0) (fs.getD (k * 2 + 1) 0)
def tilesB (n : Nat) (fs : List Int) : Bool := rB (n : Int) 1 8 && (List.range n).all (tlAt fs)
set_option maxHeartbeats 1000000 in
theorem isTile_any (x y : Int) (w : World) :
    Calls Try.prog 71 #[.agg #[.int .i64 x, .int .i64 y]] w fun e w' => e = .returned (.bool (tlB x y)) ∧ Below w.heap.size w w' := by
  have H1 := Lib.hid (fun z => withinR_any x 0 6 z)
  have H2 := Lib.hid (fun z => withinR_any y 0 6 z)
  have Hb := Lib.hid ((Below.refl _ w).alloc (Nat.le_refl _) (.cells #[.int .i64 x, .int .i64 y] 79))
  have E := Lib.hid (show tlB x y = (rB x 0 6 && rB y 0 6) from rfl)
  generalize tlB x y = R at *
  generalize rB x 0 6 = r1 at *
  generalize rB y 0 6 = r2 at *
  cases r1
  · have E2 := Lib.hid (show R = false by rw [E.out]; simp)
    go_enter Try.func71, Try.ntmps71
    go_wp2_with (first | (go_at_call 69; (with_reducible refine (H1.out _).mono ?_); rintro e w' ⟨rfl, rfl⟩))
    go_ret
    exact ⟨ret_bool E2.out.symm, Hb.out⟩
  have E2 := Lib.hid (show R = r2 by rw [E.out]; simp)
  go_enter Try.func71, Try.ntmps71
  go_wp2_with (first | (go_at_call 69; (with_reducible refine (H1.out _).mono ?_); rintro e w' ⟨rfl, rfl⟩) | (go_at_call 69; (with_reducible refine (H2.out _).mono ?_); rintro e w' ⟨rfl, rfl⟩))
  go_ret
  exact ⟨ret_bool E2.out.symm, Hb.out⟩
set_option maxHeartbeats 1000000 in
theorem countTile_any (n : Nat) (fs : List Int) (v : Value) (G : Nat) (bound caps : Array Value) (p : Nat → Bool) (w : World) (hn : n ≤ 1048576) (h : SlK 2 w v n fs)
    (hent : ∀ args w, (callFunc G args).run Try.prog w = .ok (.enter G args) w)
    (hc : ∀ k w', k < n → Below w.heap.size w w' → Calls Try.prog G (bound ++ #[.agg #[.int .i64 (fs.getD (k * 2) 0), .int .i64 (fs.getD (k * 2 + 1) 0)]] ++ caps) w' fun e w'' => e = .returned (.bool (p k)) ∧ Below w'.heap.size w' w'') :
    Calls Try.prog 70 #[v, .func (.func G) bound caps] w fun e w' => e = .returned (.int .i64 ((cntQ p n : Nat) : Int)) ∧ Below w.heap.size w w' := by
  have Hc := Lib.hid hc
  clear hc
  obtain ⟨-, q, cap, rfl, hf⟩ := h
  have Hf := Lib.hid hf
  clear hf
  have Hle := Lib.hid (cntQ_le p)
  have Hst := Lib.hid (fun k => show cntQ p (k + 1) = cntQ p k + (if p k = true then 1 else 0) from rfl)
  go_enter Try.func70, Try.ntmps70
  go_wp2
  go_loopw [5, 10] (fun c i wr => ∃ k : Nat, k ≤ n ∧ i = .int .i64 (k : Int) ∧ c = .int .i64 ((cntQ p k : Nat) : Int) ∧ Hid (Below w.heap.size w wr)) (fun _ i _ => n - (intOf i).toNat)
  case atStart => exact ⟨0, Nat.zero_le _, rfl, rfl, Lib.hid (Below.refl _ _)⟩
  case round =>
    obtain ⟨k, hk, rfl, rfl, Hd⟩ := hrel
    have hsz := Hd.out.size
    have hle := Hle.out k
    by_cases hlt : k < n
    · obtain ⟨hcap, b, off, rfl, hbs, hcell⟩ := Hf.out (by omega)
      have c0 : wr.cell? ⟨b, off + k * 2, none⟩ = some (Value.int .i64 (fs.getD (k * 2) 0)) := by rw [Hd.out.cell hbs]; exact hcell (k * 2) (by omega)
      have c1 : wr.cell? ⟨b, off + k * 2 + 1, none⟩ = some (Value.int .i64 (fs.getD (k * 2 + 1) 0)) := by rw [Hd.out.cell hbs]; exact hcell (k * 2 + 1) (by omega)
      have Hcall := Lib.hid (Hc.out k _ hlt (Hd.out.alloc hsz (.cells #[.int .i64 (fs.getD (k * 2) 0), .int .i64 (fs.getD (k * 2 + 1) 0)] 79)))
      have Hal := Lib.hid (Hd.out.alloc hsz (.cells #[.int .i64 (fs.getD (k * 2) 0), .int .i64 (fs.getD (k * 2 + 1) 0)] 79))
      have hsz2 : w.heap.size ≤ (wr.alloc (.cells #[.int .i64 (fs.getD (k * 2) 0), .int .i64 (fs.getD (k * 2 + 1) 0)] 79)).heap.size := by simp; omega
      have hst := Hst.out k
      clear hcell
      generalize fs.getD (k * 2) 0 = X at *
      generalize fs.getD (k * 2 + 1) 0 = Y at *
      cases hp : p k
      · rw [hp] at hst Hcall
        rw [if_neg Bool.false_ne_true, Nat.add_zero] at hst
        have Hst2 := Lib.hid hst
        clear hst hp
        generalize cntQ p k = C at *
        go_wp2_with (refine (Hcall.out).mono ?_; rintro e w' ⟨rfl, hb2⟩; have Hb2 := Lib.hid (Hal.out.trans (hb2.mono hsz2)); clear hb2)
        go_roundw
        case rel => exact ⟨k + 1, by omega, by go_num, by rw [Hst2.out]; first | rfl | go_num, Hb2⟩
        case measure => simp [intOf]; omega
      · rw [hp] at hst Hcall
        rw [if_pos rfl] at hst
        have Hst2 := Lib.hid hst
        clear hst hp
        generalize cntQ p k = C at *
        go_wp2_with (refine (Hcall.out).mono ?_; rintro e w' ⟨rfl, hb2⟩; have Hb2 := Lib.hid (Hal.out.trans (hb2.mono hsz2)); clear hb2)
        go_roundw
        case rel => exact ⟨k + 1, by omega, by go_num, by rw [Hst2.out]; first | rfl | go_num, Hb2⟩
        case measure => simp [intOf]; omega
    · obtain rfl : k = n := by omega
      go_wp2
      go_ret
      exact ⟨rfl, Hd.out⟩
set_option maxHeartbeats 1000000 in
theorem tiles_impl (n : Nat) (fs : List Int) (v : Value) (w : World) (hn : n ≤ 1048576) (h : SlK 2 w v n fs) :
    Calls Try.prog 35 #[v] w fun e w' => e = .returned (.bool (tilesB n fs)) ∧ Below w.heap.size w w' := by
  have H1 := Lib.hid (fun z => withinR_any (n : Int) 1 8 z)
  have H2 := Lib.hid (countTile_any n fs v 71 #[] #[] (tlAt fs) w hn h (run_enter Try.func71 (by kernel_rfl) (by kernel_rfl)) (fun k w' hk hb => isTile_any (fs.getD (k * 2) 0) (fs.getD (k * 2 + 1) 0) w'))
  have E := Lib.hid (show tilesB n fs = (rB (n : Int) 1 8 && (List.range n).all (tlAt fs)) from rfl)
  have Hall := Lib.hid (cntQ_all (tlAt fs) n)
  have Hle := cntQ_le (tlAt fs) n
  obtain ⟨-, p, cap, rfl, -⟩ := h
  generalize tilesB n fs = R at *
  generalize (List.range n).all (tlAt fs) = A at *
  generalize cntQ (tlAt fs) n = C at *
  generalize rB (n : Int) 1 8 = r1 at *
  cases r1
  · have E2 := Lib.hid (show R = false by rw [E.out]; simp)
    go_enter Try.func35, Try.ntmps35
    go_wp2_with (refine (H1.out _).mono ?_; rintro e w' ⟨rfl, rfl⟩)
    go_ret
    exact ⟨ret_bool E2.out.symm, Below.refl _ _⟩
  have E2 := Lib.hid (show R = A by rw [E.out]; simp)
  go_enter Try.func35, Try.ntmps35
  go_wp2_with (first | (go_at_call 69; refine (H1.out _).mono ?_; rintro e w' ⟨rfl, rfl⟩) | (go_at_call 70; refine (H2.out).mono ?_; rintro e w' ⟨rfl, hb⟩; have Hb2 := Lib.hid hb; clear hb))
  go_ret
  exact ⟨ret_bool (by rw [E2.out, ← Hall.out]), Hb2.out⟩
set_option maxRecDepth 100000 in
set_option maxHeartbeats 2000000 in
theorem tiles_spec (n : Nat) (fs : List Int) (v : Value) (w : World) (hn : n ≤ 1048576) (h : SlK 2 w v n fs) :
    Calls Try.prog 67 #[v] w fun e w' => e = .returned (.bool (tilesB n fs)) ∧ Drawn w w' := by
  have Hin := Lib.hid (fun x z => inR_any x 0 6 z)
  obtain ⟨-, p, cap, rfl, hf⟩ := h
  have Hf := Lib.hid hf
  clear hf
  have E := Lib.hid (show tilesB n fs = (rB (n : Int) 1 8 && (List.range n).all (tlAt fs)) from rfl)
  have Hno := Lib.hid (fun k (hk : k < n) h => show tilesB n fs = false by unfold tilesB; rw [all_not (p := tlAt fs) k hk h, Bool.and_false])
  have Hyes := Lib.hid (fun h => show tilesB n fs = (decide (1 ≤ (n : Int)) && decide ((n : Int) ≤ 8)) by unfold tilesB; rw [all_of (p := tlAt fs) h, Bool.and_true]; rfl)
  have Hat := Lib.hid (fun k => show tlAt fs k = (rB (fs.getD (k * 2) 0) 0 6 && rB (fs.getD (k * 2 + 1) 0) 0 6) from rfl)
  clear E
  generalize tilesB n fs = R at *
  go_enter Try.func67, Try.ntmps67
  go_wp2
  go_loopw [3] (fun i wr => ∃ k : Nat, k ≤ n ∧ i = .int .i64 (k : Int) ∧ Hid (∀ j, j < k → tlAt fs j = true) ∧ Drawn w wr) (fun i _ => n - (intOf i).toNat)
  case atStart => exact ⟨0, Nat.zero_le _, rfl, Lib.hid (fun j h => absurd h (by omega)), Drawn.refl _⟩
  case round =>
    obtain ⟨k, hk, rfl, hdn, hw⟩ := hrel
    by_cases hlt : k < n
    · obtain ⟨hcap, b, off, rfl, hbs, hc⟩ := Hf.out (by omega)
      have c0 := (hw.cell _).trans (hc (k * 2) (by omega))
      have c1 : wr.cell? ⟨b, off + k * 2 + 1, none⟩ = some (Value.int .i64 (fs.getD (k * 2 + 1) 0)) := (hw.cell _).trans (hc (k * 2 + 1) (by omega))
      have Hat2 := Lib.hid (Hat.out k)
      have Hno2 := Lib.hid (fun h => Hno.out k hlt h)
      have HD : Hid (tlAt fs k = true → ∀ j, j < k + 1 → tlAt fs j = true) := Lib.hid (fun hg j hj => by
        by_cases e : j = k
        · subst e; exact hg
        · exact hdn.out j (by omega))
      have H1 := Lib.hid (fun z => Hin.out (fs.getD (k * 2) 0) z)
      have H2 := Lib.hid (fun z => Hin.out (fs.getD (k * 2 + 1) 0) z)
      clear hc Hno Hyes Hat hdn Hin
      generalize tlAt fs k = g at *
      generalize fs.getD (k * 2) 0 = X at *
      generalize fs.getD (k * 2 + 1) 0 = Y at *
      generalize rB X 0 6 = r1 at *
      generalize rB Y 0 6 = r2 at *
      cases r1
      · have HR := Lib.hid (Hno2.out (by rw [Hat2.out]; simp))
        clear Hat2 Hno2 HD
        go_wp2_with (first | (go_at_call 79; (with_reducible refine (H1.out _).mono ?_); rintro e w' ⟨rfl, rfl⟩))
        go_ret
        exact ⟨ret_bool HR.out.symm, hw⟩
      cases r2
      · have HR := Lib.hid (Hno2.out (by rw [Hat2.out]; simp))
        clear Hat2 Hno2 HD
        go_wp2_with (first | (go_at_call 79; (with_reducible refine (H1.out _).mono ?_); rintro e w' ⟨rfl, rfl⟩) | (go_at_call 79; (with_reducible refine (H2.out _).mono ?_); rintro e w' ⟨rfl, rfl⟩))
        go_ret
        exact ⟨ret_bool HR.out.symm, hw⟩
      have HD2 := Lib.hid (HD.out (by rw [Hat2.out]; simp))
      clear Hat2 Hno2 HD
      go_wp2_with (first | (go_at_call 79; (with_reducible refine (H1.out _).mono ?_); rintro e w' ⟨rfl, rfl⟩) | (go_at_call 79; (with_reducible refine (H2.out _).mono ?_); rintro e w' ⟨rfl, rfl⟩))
      go_roundw
      case rel => exact ⟨k + 1, by omega, by go_num, HD2, hw⟩
      case measure => simp [intOf]; omega
    · obtain rfl : k = n := by omega
      have HR := Lib.hid (Hyes.out hdn.out)
      clear Hno Hyes Hat hdn Hin
      by_cases h1 : 1 ≤ (k : Int)
      · have hd1 : decide (1 ≤ (k : Int)) = true := decide_eq_true h1
        rw [hd1, Bool.true_and] at HR
        go_wp2
        go_ret
        exact ⟨ret_bool HR.out.symm, hw⟩
      · have hd1 : decide (1 ≤ (k : Int)) = false := decide_eq_false h1
        rw [hd1, Bool.false_and] at HR
        obtain rfl : k = 0 := by omega
        go_wp2
        go_ret
        exact ⟨ret_bool HR.out.symm, hw⟩
def ok_AreTiles (n : Nat) (fs : List Int) : Bool := tilesB n fs
theorem impl_AreTiles (n : Nat) (fs : List Int) (v : Value) (w : World) (hn : n ≤ 1048576) (h : SlK 2 w v n fs) :
    Calls Try.prog 35 #[v] w fun e w' => e = .returned (.bool (ok_AreTiles n fs)) ∧ Below w.heap.size w w' := tiles_impl n fs v w hn h
theorem spec_AreTiles (n : Nat) (fs : List Int) (v : Value) (w : World) (hn : n ≤ 1048576) (h : SlK 2 w v n fs) :
    Calls Try.prog 33 #[v] w fun e w' => e = .returned (.bool (ok_AreTiles n fs)) ∧ Below w.heap.size w w' := by
  have H := Lib.hid (tiles_spec n fs v w hn h)
  unfold ok_AreTiles
  obtain ⟨-, p, cap, rfl, -⟩ := h
  generalize tilesB n fs = R at *
  go_enter Try.func33, Try.ntmps33
  go_wp2_with (refine (H.out).mono ?_; rintro e w' ⟨rfl, hd⟩; have Hd := Lib.hid hd; clear hd)
  go_ret
  exact ⟨rfl, Hd.out.below _⟩
end Go.Proofs.Ytfipcpbibmhjoaa
