/- Contracts: games of players, in both texts. -/
import Derived.Test.YtfipcpbibmhjoabQa
import Derived.Test.YtfipcpbibmhjoabSa
import Derived.BigQuiet
import Derived.RangeFuncBox
import Derived.Deep.RegionLawGrows
set_option linter.unusedVariables false
namespace Go.Proofs.Ytfipcpbibmhjoab
open Go.RowKit

/-- a number is within bounds -/
def rB (n lo hi : Int) : Bool := decide (lo ≤ n) && decide (n ≤ hi)
theorem rB_yes {n lo hi : Int} (h : rB n lo hi = true) : lo ≤ n ∧ n ≤ hi := by
  unfold rB at h
  rw [Bool.and_eq_true] at h
  exact ⟨of_decide_eq_true h.1, of_decide_eq_true h.2⟩
theorem withinR_any (n lo hi : Int) (w : World) : Calls Try.prog 58 #[.int .i64 n, .int .i64 lo, .int .i64 hi] w fun e w' => e = .returned (.bool (rB n lo hi)) ∧ w = w' := by
  unfold rB
  by_cases h : lo ≤ n ∧ n ≤ hi
  · rw [decide_eq_true h.1, decide_eq_true h.2]; exact within_yes n lo hi w h.1 h.2
  · have e : (decide (lo ≤ n) && decide (n ≤ hi)) = false := by simpa using h
    rw [e]; exact within_no n lo hi w (by omega)
theorem inR_any (n lo hi : Int) (w : World) : Calls Try.prog 46 #[.int .i64 n, .int .i64 lo, .int .i64 hi] w fun e w' => e = .returned (.bool (rB n lo hi)) ∧ w = w' := by
  unfold rB
  by_cases h : lo ≤ n ∧ n ≤ hi
  · rw [decide_eq_true h.1, decide_eq_true h.2]; exact in_yes n lo hi w h.1 h.2
  · have e : (decide (lo ≤ n) && decide (n ≤ hi)) = false := by simpa using h
    rw [e]; exact in_no n lo hi w (by omega)
/-- a game of so many players -/
def gB (P x y z : Int) : Bool := ((rB x 0 (P - 1) && rB y 0 (P - 1)) && !decide (x = y)) && rB z 0 2
def gAt (P : Int) (fs : List Int) (k : Nat) : Bool := gB P (fs.getD (k * 3) 0) (fs.getD (k * 3 + 1) 0) (fs.getD (k * 3 + 2) 0)
def gAll (P : Int) (fs : List Int) (n : Nat) : Bool := (List.range n).all (gAt P fs)
def gamesB (P : Int) (n : Nat) (fs : List Int) : Bool := (rB P 2 16 && decide (n ≤ 128)) && gAll P fs n
theorem gAll_not {P : Int} {fs : List Int} {n : Nat} (k : Nat) (hk : k < n) (h : gAt P fs k = false) : gAll P fs n = false := by
  cases e : gAll P fs n with
  | false => rfl
  | true =>
    have := List.all_eq_true.1 e k (List.mem_range.2 hk)
    rw [h] at this; cases this
theorem gAll_of {P : Int} {fs : List Int} {n : Nat} (h : ∀ k, k < n → gAt P fs k = true) : gAll P fs n = true :=
  List.all_eq_true.2 fun k hk => h k (List.mem_range.1 hk)
theorem gAll_at {P : Int} {fs : List Int} {n : Nat} (h : gAll P fs n = true) (k : Nat) (hk : k < n) : gAt P fs k = true := List.all_eq_true.1 h k (List.mem_range.2 hk)

theorem players_any (P : Int) (w : World) : Calls Try.prog 95 #[.int .i64 P] w fun e w' => e = .returned (.bool (rB P 2 16)) ∧ w = w' := by
  have H := Lib.hid (fun z => withinR_any P 2 16 z)
  generalize rB P 2 16 = R at *
  go_enter Try.func95, Try.ntmps95
  go_wp2_with (refine (H.out _).mono ?_; rintro e w' ⟨rfl, rfl⟩)
  go_ret
  exact ⟨rfl, rfl⟩
set_option maxHeartbeats 1000000 in
theorem among_any (P x y z : Int) (w : World) (h1 : 2 ≤ P) (h2 : P ≤ 16) :
    Calls Try.prog 110 #[.agg #[.int .i64 x, .int .i64 y, .int .i64 z], .int .i64 P] w fun e w' => e = .returned (.bool (gB P x y z)) ∧ Below w.heap.size w w' := by
  have H1 := Lib.hid (fun z => withinR_any x 0 (P - 1) z)
  have H2 := Lib.hid (fun z => withinR_any y 0 (P - 1) z)
  have H3 := Lib.hid (fun w => withinR_any z 0 2 w)
  have Hb := Lib.hid ((Below.refl _ w).alloc (Nat.le_refl _) (.cells #[.int .i64 x, .int .i64 y, .int .i64 z] 79))
  have E := Lib.hid (show gB P x y z = (((rB x 0 (P - 1) && rB y 0 (P - 1)) && !decide (x = y)) && rB z 0 2) from rfl)
  generalize gB P x y z = R at *
  generalize rB x 0 (P - 1) = r1 at *
  generalize rB y 0 (P - 1) = r2 at *
  generalize rB z 0 2 = r3 at *
  cases r1
  · skip
    have E2 := Lib.hid (show R = false by rw [E.out]; simp)
    go_enter Try.func110, Try.ntmps110
    go_wp2_with (first | (go_at_call 58; (with_reducible refine (H1.out _).mono ?_); rintro e w' ⟨rfl, rfl⟩))
    go_ret
    exact ⟨ret_bool E2.out.symm, Hb.out⟩
  cases r2
  · skip
    have E2 := Lib.hid (show R = false by rw [E.out]; simp)
    go_enter Try.func110, Try.ntmps110
    go_wp2_with (first | (go_at_call 58; (with_reducible refine (H1.out _).mono ?_); rintro e w' ⟨rfl, rfl⟩) | (go_at_call 58; (with_reducible refine (H2.out _).mono ?_); rintro e w' ⟨rfl, rfl⟩))
    go_ret
    exact ⟨ret_bool E2.out.symm, Hb.out⟩
  by_cases hxy : x = y
  · have hxy' : (x != y) = false := by simp [hxy]
    have E3 := Lib.hid (show R = false by rw [E.out]; simp [hxy])
    clear hxy
    go_enter Try.func110, Try.ntmps110
    go_wp2_with (first | (go_at_call 58; (with_reducible refine (H1.out _).mono ?_); rintro e w' ⟨rfl, rfl⟩) | (go_at_call 58; (with_reducible refine (H2.out _).mono ?_); rintro e w' ⟨rfl, rfl⟩))
    go_ret
    exact ⟨ret_bool E3.out.symm, Hb.out⟩
  have hxy' : (x != y) = true := by simp [hxy]
  have E3 := Lib.hid (show R = r3 by rw [E.out]; simp [hxy])
  have hxy2 : (x = y) = False := eq_false hxy
  clear hxy
  go_enter Try.func110, Try.ntmps110
  go_wp2_with (first | (go_at_call 58; (with_reducible refine (H1.out _).mono ?_); rintro e w' ⟨rfl, rfl⟩) | (go_at_call 58; (with_reducible refine (H2.out _).mono ?_); rintro e w' ⟨rfl, rfl⟩) | (go_at_call 58; (with_reducible refine (H3.out _).mono ?_); rintro e w' ⟨rfl, rfl⟩))
  go_ret
  exact ⟨ret_bool E3.out.symm, Hb.out⟩
set_option maxHeartbeats 1000000 in
theorem clo_games (P x y z : Int) (B : Nat) (w : World) (h1 : 2 ≤ P) (h2 : P ≤ 16) (c1 : w.cell? ⟨B, 0, none⟩ = some (.int .i64 P)) :
    Calls Try.prog 109 #[.agg #[.int .i64 x, .int .i64 y, .int .i64 z], .pointer (some ⟨B, 0, none⟩)] w fun e w' => e = .returned (.bool (!gB P x y z)) ∧ Below w.heap.size w w' := by
  have hb0 := (Below.refl _ w).alloc (Nat.le_refl _) (.cells #[.int .i64 x, .int .i64 y, .int .i64 z] 79)
  have H := Lib.hid (fun u => among_any P x y z u h1 h2)
  have Hb0 := Lib.hid hb0
  have c2 := cell_keep hb0 c1
  clear hb0
  generalize gB P x y z = R at *
  go_enter Try.func109, Try.ntmps109
  go_wp2_with (refine (H.out _).mono ?_; rintro e w' ⟨rfl, hb⟩; have Hb2 := Lib.hid (below_step Hb0.out hb (Nat.le_refl _)); clear hb)
  go_ret
  exact ⟨rfl, Hb2.out⟩
set_option maxHeartbeats 2000000 in
theorem indexG_any (P : Int) (n : Nat) (fs : List Int) (v : Value) (B : Nat) (w : World) (hn : n ≤ 1048576) (h : SlK 3 w v n fs) (h1 : 2 ≤ P) (h2 : P ≤ 16) (c1 : w.cell? ⟨B, 0, none⟩ = some (.int .i64 P)) :
    Calls Try.prog 139 #[v, .func (.func 109) #[] #[.pointer (some ⟨B, 0, none⟩)]] w fun e w' => ∃ q : Int, e = .returned (.int .i64 q) ∧ decide (0 ≤ q) = !gAll P fs n ∧ Below w.heap.size w w' := by
  have Hc := Lib.hid (fun k z (hb : Below w.heap.size w z) => clo_games P (fs.getD (k * 3) 0) (fs.getD (k * 3 + 1) 0) (fs.getD (k * 3 + 2) 0) B z h1 h2 (cell_keep hb c1))
  have Hno := Lib.hid (fun k (hk : k < n) => gAll_not (P := P) (fs := fs) k hk)
  have Hyes := Lib.hid (gAll_of (P := P) (fs := fs) (n := n))
  have Hat := Lib.hid (fun k => show gAt P fs k = gB P (fs.getD (k * 3) 0) (fs.getD (k * 3 + 1) 0) (fs.getD (k * 3 + 2) 0) from rfl)
  obtain ⟨-, p, cap, rfl, hf⟩ := h
  have Hf := Lib.hid hf
  clear hf c1
  go_enter Try.func139, Try.ntmps139
  go_wp2
  go_loopw [8] (fun i wr => ∃ k : Nat, k ≤ n ∧ i = .int .i64 (k : Int) ∧ Hid (∀ j, j < k → gAt P fs j = true) ∧ Hid (Below w.heap.size w wr)) (fun i _ => n - (intOf i).toNat)
  case atStart => exact ⟨0, Nat.zero_le _, rfl, Lib.hid (fun j h => absurd h (by omega)), Lib.hid (Below.refl _ _)⟩
  case round =>
    obtain ⟨k, hk, rfl, hd, hb⟩ := hrel
    have hsz := hb.out.size
    by_cases hlt : k < n
    · obtain ⟨hcap, b, off, rfl, hbs, hc⟩ := Hf.out (by omega)
      have c0 : wr.cell? ⟨b, off + k * 3, none⟩ = some (Value.int .i64 (fs.getD (k * 3) 0)) := by rw [hb.out.cell hbs]; exact hc (k * 3) (by omega)
      have c1 : wr.cell? ⟨b, off + k * 3 + 1, none⟩ = some (Value.int .i64 (fs.getD (k * 3 + 1) 0)) := by rw [hb.out.cell hbs]; exact hc (k * 3 + 1) (by omega)
      have c2 : wr.cell? ⟨b, off + k * 3 + 2, none⟩ = some (Value.int .i64 (fs.getD (k * 3 + 2) 0)) := by rw [hb.out.cell hbs]; exact hc (k * 3 + 2) (by omega)
      have Hcall := Lib.hid (Hc.out k wr hb.out)
      have Hat2 := Lib.hid (Hat.out k)
      have Hno2 := Lib.hid (Hno.out k hlt)
      clear hc Hc Hno Hyes Hat
      rw [← Hat2.out] at Hcall
      generalize fs.getD (k * 3) 0 = X at *
      generalize fs.getD (k * 3 + 1) 0 = Y at *
      generalize fs.getD (k * 3 + 2) 0 = Z at *
      cases hg : gAt P fs k
      · rw [hg] at Hcall
        have HR := Lib.hid (Hno2.out hg)
        clear Hat2 hg Hno2
        go_wp2_with (refine (Hcall.out).mono ?_; rintro e w' ⟨rfl, hb2⟩; have Hb2 := Lib.hid (hb.out.trans (hb2.mono hsz)); clear hb2)
        go_ret
        exact ⟨_, rfl, by rw [HR.out]; simp, Hb2.out⟩
      · rw [hg] at Hcall
        have HD : Hid (∀ j, j < k + 1 → gAt P fs j = true) := Lib.hid (fun j hj => by
          by_cases e : j = k
          · subst e; exact hg
          · exact hd.out j (by omega))
        clear Hat2 hg Hno2 hd
        go_wp2_with (refine (Hcall.out).mono ?_; rintro e w' ⟨rfl, hb2⟩; have Hb2 := Lib.hid (hb.out.trans (hb2.mono hsz)); clear hb2)
        go_roundw
        case rel => exact ⟨k + 1, by omega, by go_num, HD, Hb2⟩
        case measure => simp [intOf]; omega
    · obtain rfl : k = n := by omega
      have HR := Lib.hid (Hyes.out hd.out)
      clear Hc Hno Hyes Hat hd
      go_wp2
      go_ret
      exact ⟨_, rfl, by rw [HR.out]; rfl, hb.out⟩
theorem containsG_any (P : Int) (n : Nat) (fs : List Int) (v : Value) (B : Nat) (w : World) (hn : n ≤ 1048576) (h : SlK 3 w v n fs) (h1 : 2 ≤ P) (h2 : P ≤ 16) (c1 : w.cell? ⟨B, 0, none⟩ = some (.int .i64 P)) :
    Calls Try.prog 108 #[v, .func (.func 109) #[] #[.pointer (some ⟨B, 0, none⟩)]] w fun e w' => e = .returned (.bool (!gAll P fs n)) ∧ Below w.heap.size w w' := by
  have H := Lib.hid (indexG_any P n fs v B w hn h h1 h2 c1)
  clear c1 h
  generalize gAll P fs n = R at *
  go_enter Try.func108, Try.ntmps108
  go_wp2_with (refine (H.out).mono ?_; rintro e w' ⟨q, rfl, hq, hb⟩; have Hq := Lib.hid hq; have Hb := Lib.hid hb; clear hq hb)
  go_ret
  exact ⟨ret_bool Hq.out, Hb.out⟩
set_option maxHeartbeats 1000000 in
theorem games_impl (P : Int) (n : Nat) (fs : List Int) (v : Value) (w : World) (hn : n ≤ 1048576) (h : SlK 3 w v n fs) :
    Calls Try.prog 67 #[.int .i64 P, v] w fun e w' => e = .returned (.bool (gamesB P n fs)) ∧ Below w.heap.size w w' := by
  have hb0 := (Below.refl _ w).alloc (Nat.le_refl _) (.cells #[.int .i64 P] 2)
  have Hp := Lib.hid (fun z => players_any P z)
  have b1 := (Boxed.new w 2 (.int .i64 P)).cell
  have Hcon := Lib.hid (fun h1 h2 => containsG_any P n fs v w.heap.size _ hn (h.later hb0) h1 h2 b1)
  have Hb0 := Lib.hid hb0
  clear hb0 b1
  obtain ⟨-, p, cap, rfl, -⟩ := h
  have E := Lib.hid (show gamesB P n fs = ((rB P 2 16 && decide (n ≤ 128)) && gAll P fs n) from rfl)
  generalize gamesB P n fs = R at *
  cases hr : rB P 2 16
  · rw [hr] at Hp
    have E2 := Lib.hid (show R = false by rw [E.out, hr]; simp)
    clear hr Hcon E
    go_enter Try.func67, Try.ntmps67
    go_wp2_with (refine (Hp.out _).mono ?_; rintro e w' ⟨rfl, rfl⟩)
    go_ret
    exact ⟨ret_bool E2.out.symm, Hb0.out⟩
  obtain ⟨h1, h2⟩ := rB_yes hr
  by_cases hn2 : n ≤ 128
  · have E2 := Lib.hid (show R = gAll P fs n by rw [E.out, hr, decide_eq_true hn2]; simp)
    have Hcon2 := Lib.hid (Hcon.out h1 h2)
    rw [hr] at Hp
    have hd : decide (128 < (n : Int)) = false := decide_eq_false (by omega)
    clear hr Hcon E
    generalize gAll P fs n = G at *
    go_enter Try.func67, Try.ntmps67
    go_wp2_with (first | (go_at_call 95; refine (Hp.out _).mono ?_; rintro e w' ⟨rfl, rfl⟩) | (go_at_call 108; refine (Hcon2.out).mono ?_; rintro e w' ⟨rfl, hb⟩; have Hb2 := Lib.hid (below_step Hb0.out hb (Nat.le_refl _)); clear hb))
    go_ret
    exact ⟨ret_bool (by simp [E2.out]), Hb2.out⟩
  · have E2 := Lib.hid (show R = false by rw [E.out, decide_eq_false hn2]; simp)
    rw [hr] at Hp
    have hd : decide (128 < (n : Int)) = true := decide_eq_true (by omega)
    clear hr Hcon E
    go_enter Try.func67, Try.ntmps67
    go_wp2_with (refine (Hp.out _).mono ?_; rintro e w' ⟨rfl, rfl⟩)
    go_ret
    exact ⟨ret_bool E2.out.symm, Hb0.out⟩
set_option maxRecDepth 100000 in
set_option maxHeartbeats 4000000 in
theorem games_spec (P : Int) (n : Nat) (fs : List Int) (v : Value) (w : World) (hn : n ≤ 1048576) (h : SlK 3 w v n fs) :
    Calls Try.prog 52 #[.int .i64 P, v] w fun e w' => e = .returned (.bool (gamesB P n fs)) ∧ Drawn w w' := by
  have Hp := Lib.hid (fun z => inR_any P 2 16 z)
  have Hin := Lib.hid (fun x lo hi z => inR_any x lo hi z)
  obtain ⟨-, p, cap, rfl, hf⟩ := h
  have Hf := Lib.hid hf
  clear hf
  have E := Lib.hid (show gamesB P n fs = ((rB P 2 16 && decide (n ≤ 128)) && gAll P fs n) from rfl)
  have Hno := Lib.hid (fun k (hk : k < n) => gAll_not (P := P) (fs := fs) k hk)
  have Hyes := Lib.hid (gAll_of (P := P) (fs := fs) (n := n))
  have Hat := Lib.hid (fun k => show gAt P fs k = (((rB (fs.getD (k * 3) 0) 0 (P - 1) && rB (fs.getD (k * 3 + 1) 0) 0 (P - 1)) && !decide ((fs.getD (k * 3) 0) = (fs.getD (k * 3 + 1) 0))) && rB (fs.getD (k * 3 + 2) 0) 0 2) from rfl)
  generalize gamesB P n fs = R at *
  cases hr : rB P 2 16
  · rw [hr] at Hp
    have E2 := Lib.hid (show R = false by rw [E.out, hr]; simp)
    clear hr E Hin Hno Hyes Hat
    go_enter Try.func52, Try.ntmps52
    go_wp2_with (refine (Hp.out _).mono ?_; rintro e w' ⟨rfl, rfl⟩)
    go_ret
    exact ⟨ret_bool E2.out.symm, Drawn.refl _⟩
  obtain ⟨h1, h2⟩ := rB_yes hr
  by_cases hn3 : ¬ n ≤ 128
  · have E2 := Lib.hid (show R = false by rw [E.out, decide_eq_false hn3]; simp)
    rw [hr] at Hp
    have hd : decide (128 < (n : Int)) = true := decide_eq_true (by omega)
    clear hr E Hin Hno Hyes Hat
    go_enter Try.func52, Try.ntmps52
    go_wp2_with (refine (Hp.out _).mono ?_; rintro e w' ⟨rfl, rfl⟩)
    go_ret
    exact ⟨ret_bool E2.out.symm, Drawn.refl _⟩
  have hn2 : n ≤ 128 := by omega
  clear hn3
  have E2 := Lib.hid (show R = gAll P fs n by rw [E.out, hr, decide_eq_true hn2]; simp)
  rw [hr] at Hp
  have hd : decide (128 < (n : Int)) = false := decide_eq_false (by omega)
  clear hr E
  go_enter Try.func52, Try.ntmps52
  go_wp2_with (refine (Hp.out _).mono ?_; rintro e w' ⟨rfl, rfl⟩)
  clear Hp
  go_loopw [17] (fun i wr => ∃ k : Nat, k ≤ n ∧ i = .int .i64 (k : Int) ∧ Hid (∀ j, j < k → gAt P fs j = true) ∧ Drawn w wr) (fun i _ => n - (intOf i).toNat)
  case atStart => exact ⟨0, Nat.zero_le _, rfl, Lib.hid (fun j h => absurd h (by omega)), Drawn.refl _⟩
  case round =>
    obtain ⟨k, hk, rfl, hdn, hw⟩ := hrel
    by_cases hlt : k < n
    · obtain ⟨hcap, b, off, rfl, hbs, hc⟩ := Hf.out (by omega)
      have c0 := (hw.cell _).trans (hc (k * 3) (by omega))
      have c1 : wr.cell? ⟨b, off + k * 3 + 1, none⟩ = some (Value.int .i64 (fs.getD (k * 3 + 1) 0)) := (hw.cell _).trans (hc (k * 3 + 1) (by omega))
      have c2 : wr.cell? ⟨b, off + k * 3 + 2, none⟩ = some (Value.int .i64 (fs.getD (k * 3 + 2) 0)) := (hw.cell _).trans (hc (k * 3 + 2) (by omega))
      have Hat2 := Lib.hid (Hat.out k)
      have Hno2 := Lib.hid (fun h => E2.out.trans (Hno.out k hlt h))
      have HD : Hid (gAt P fs k = true → ∀ j, j < k + 1 → gAt P fs j = true) := Lib.hid (fun hg j hj => by
        by_cases e : j = k
        · subst e; exact hg
        · exact hdn.out j (by omega))
      clear hc Hno Hyes Hat hdn
      generalize fs.getD (k * 3) 0 = X at *
      generalize fs.getD (k * 3 + 1) 0 = Y at *
      generalize fs.getD (k * 3 + 2) 0 = Z at *
      have H1 := Lib.hid (fun z => Hin.out X 0 (P - 1) z)
      have H2 := Lib.hid (fun z => Hin.out Y 0 (P - 1) z)
      have H3 := Lib.hid (fun z => Hin.out Z 0 2 z)
      generalize gAt P fs k = g at *
      generalize rB X 0 (P - 1) = r1 at *
      generalize rB Y 0 (P - 1) = r2 at *
      generalize rB Z 0 2 = r3 at *
      clear Hin
      cases r1
      · skip
        have HR := Lib.hid (Hno2.out (by rw [Hat2.out]; simp))
        clear Hat2 Hno2 HD
        go_wp2
        go_quiet ((first | (go_at_call 46; with_reducible exact quiet_same (H1.out _))))
        go_wp2
        go_ret
        exact ⟨ret_bool HR.out.symm, hw.more _⟩
      cases r2
      · skip
        have HR := Lib.hid (Hno2.out (by rw [Hat2.out]; simp))
        clear Hat2 Hno2 HD
        go_wp2
        go_quiet ((first | (go_at_call 46; with_reducible exact quiet_same (H1.out _)) | (go_at_call 46; with_reducible exact quiet_same (H2.out _))))
        go_wp2
        go_ret
        exact ⟨ret_bool HR.out.symm, hw.more _⟩
      by_cases hxy : X = Y
      · have hxy' : (X == Y) = true := by simp [hxy]
        have HR := Lib.hid (Hno2.out (by rw [Hat2.out]; simp [hxy]))
        clear Hat2 Hno2 HD hxy
        go_wp2
        go_quiet ((first | (go_at_call 46; with_reducible exact quiet_same (H1.out _)) | (go_at_call 46; with_reducible exact quiet_same (H2.out _))))
        go_wp2
        go_ret
        exact ⟨ret_bool HR.out.symm, hw.more _⟩
      have hxy' : (X == Y) = false := by simp [hxy]
      have hxy2 : (X = Y) = False := eq_false hxy
      have Hat3 := Lib.hid (show g = r3 by rw [Hat2.out]; simp [hxy])
      clear hxy Hat2
      cases r3
      · have HR := Lib.hid (Hno2.out Hat3.out)
        clear Hat3 Hno2 HD
        go_wp2
        go_quiet ((first | (go_at_call 46; with_reducible exact quiet_same (H1.out _)) | (go_at_call 46; with_reducible exact quiet_same (H2.out _)) | (go_at_call 46; with_reducible exact quiet_same (H3.out _))))
        go_wp2
        go_ret
        exact ⟨ret_bool HR.out.symm, hw.more _⟩
      · have HD2 := Lib.hid (HD.out Hat3.out)
        clear Hat3 Hno2 HD
        go_wp2
        go_quiet ((first | (go_at_call 46; with_reducible exact quiet_same (H1.out _)) | (go_at_call 46; with_reducible exact quiet_same (H2.out _)) | (go_at_call 46; with_reducible exact quiet_same (H3.out _))))
        go_wp2
        go_roundw
        case rel => exact ⟨k + 1, by omega, by go_num, HD2, hw.more _⟩
        case measure => simp [intOf]; omega
    · obtain rfl : k = n := by omega
      have HR := Lib.hid (E2.out.trans (Hyes.out hdn.out))
      clear Hno Hyes Hat hdn E2 Hin
      go_wp2
      go_ret
      exact ⟨ret_bool HR.out.symm, hw⟩
def ok_AreGames (P : Int) (n : Nat) (fs : List Int) : Bool := gamesB P n fs
theorem impl_AreGames (P : Int) (al : -9223372036854775808 ≤ P) (au : P ≤ 9223372036854775807) (n : Nat) (fs : List Int) (v : Value) (w : World) (hn : n ≤ 1048576) (h : SlK 3 w v n fs) :
    Calls Try.prog 67 #[.int .i64 P, v] w fun e w' => e = .returned (.bool (ok_AreGames P n fs)) ∧ Below w.heap.size w w' := games_impl P n fs v w hn h
