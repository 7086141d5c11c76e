/- Decimal numerals read: what a text says, and that it leads back. Nothing of a translation. -/
import Derived.Test.YtcoehcoohppbjacDoorCa
import Derived.Lib.ParseIntB
import Derived.Lib.ItoaLen
set_option linter.unusedVariables false
namespace Go.Proofs.YtcoehcoohppbjacDoor
open Go.RowKit
def dgB (b : UInt8) : Bool := decide (48 ≤ b.toNat) && decide (b.toNat ≤ 57)
def accF (n : Nat) (l : List UInt8) : Nat := l.foldl (fun n b => if dgB b = true then 10 * n + (b.toNat - 48) else n) n
theorem accF_snoc (n : Nat) (l : List UInt8) (b : UInt8) : accF n (l ++ [b]) = if dgB b = true then 10 * accF n l + (b.toNat - 48) else accF n l := by unfold accF; rw [List.foldl_append]; rfl
theorem dig_nat (x : Nat) (h : x < 10) : (UInt8.ofNat (48 + x)).toNat = 48 + x := by rw [UInt8.toNat_ofNat']; exact Nat.mod_eq_of_lt (by omega)
theorem dig_yes (x : Nat) (h : x < 10) : dgB (UInt8.ofNat (48 + x)) = true := by unfold dgB; rw [dig_nat x h, decide_eq_true (by omega), decide_eq_true (by omega)]; rfl
theorem dec_step (u : Nat) (h : ¬ u < 10) : Lib.decDigits u = Lib.decDigits (u / 10) ++ [UInt8.ofNat (48 + u % 10)] := by
  conv => lhs; rw [Lib.decDigits]
  exact dif_neg h
theorem acc_dec : ∀ u : Nat, accF 0 (Lib.decDigits u) = u := by
  intro u
  induction u using Nat.strongRecOn with
  | _ u ih =>
    by_cases h : u < 10
    · rw [Lib.decDigits_one h]
      show (if dgB (UInt8.ofNat (48 + u)) = true then 10 * 0 + ((UInt8.ofNat (48 + u)).toNat - 48) else 0) = u
      rw [if_pos (dig_yes u h), dig_nat u h]; omega
    · rw [dec_step u h, accF_snoc, if_pos (dig_yes _ (Nat.mod_lt _ (by decide))), dig_nat _ (Nat.mod_lt _ (by decide)), ih (u / 10) (by omega)]
      omega
theorem accF_minus (l : List UInt8) : accF 0 (45 :: l) = accF 0 l := rfl
/-- the head of a numeral is a digit -/
theorem dec_head : ∀ u : Nat, ∃ b r, Lib.decDigits u = b :: r ∧ dgB b = true := by
  intro u
  induction u using Nat.strongRecOn with
  | _ u ih =>
    by_cases h : u < 10
    · exact ⟨_, [], Lib.decDigits_one h, dig_yes u h⟩
    · obtain ⟨b, r, e, hb⟩ := ih (u / 10) (by omega)
      exact ⟨b, r ++ [UInt8.ofNat (48 + u % 10)], by rw [dec_step u h, e]; rfl, hb⟩
theorem dg_not45 {b : UInt8} (h : dgB b = true) : b.toNat ≠ 43 ∧ b.toNat ≠ 45 := by
  unfold dgB at h
  rw [Bool.and_eq_true] at h
  have h1 := of_decide_eq_true h.1
  omega
/-- the number that a text says, by its digits and its sign -/
def valV (l : List UInt8) : Int := if l.head? = some 45 then -((accF 0 l : Nat) : Int) else ((accF 0 l : Nat) : Int)
theorem val_itoa (m : Int) : valV (Lib.itoa m) = m := by
  unfold valV
  by_cases h : m < 0
  · obtain ⟨a, rfl⟩ : ∃ a : Nat, m = -(a : Int) := ⟨m.natAbs, by omega⟩
    rw [Lib.itoa_neg a (by omega), if_pos (show (45 :: Lib.decDigits a).head? = some 45 from rfl), accF_minus, acc_dec]
  · obtain ⟨a, rfl⟩ : ∃ a : Nat, m = (a : Int) := ⟨m.toNat, by omega⟩
    rw [Lib.itoa_nonneg a]
    obtain ⟨b, r, e, hb⟩ := dec_head a
    rw [if_neg, acc_dec]
    rw [e]
    intro h
    have : b = 45 := by simpa using h
    exact (dg_not45 hb).2 (by rw [this]; rfl)
theorem parse_snoc (M acc : Nat) (l : List UInt8) (c : UInt8) (u : Nat) (h : Lib.parseUintM M acc l = .ok u) : Lib.parseUintM M acc (l ++ [c]) = Lib.parseUintM M u [c] := by
  induction l generalizing acc with
  | nil =>
    have : acc = u := by simpa [Lib.parseUintM] using h
    subst this; rfl
  | cons b l ih =>
    rw [List.cons_append]
    unfold Lib.parseUintM at h ⊢
    split at h
    · rename_i h1
      rw [if_pos h1]
      split at h
      · cases h
      · rename_i h2
        rw [if_neg h2]
        split at h
        · cases h
        · rename_i h3
          rw [if_neg h3]
          exact ih _ h
    · cases h
theorem parse_one (M u x : Nat) (hx : x < 10) (h1 : ¬ 1844674407370955162 ≤ u) (h2 : ¬ M < u * 10 + x) : Lib.parseUintM M u [UInt8.ofNat (48 + x)] = .ok (u * 10 + x) := by
  unfold Lib.parseUintM
  rw [dig_nat x hx, if_pos ⟨by omega, by omega⟩, if_neg h1, if_neg (by omega)]
  unfold Lib.parseUintM
  rw [show 48 + x - 48 = x by omega]
theorem parse_dec (u : Nat) (hu : u ≤ 2 ^ 64 - 1) : Lib.parseUintM (2 ^ 64 - 1) 0 (Lib.decDigits u) = .ok u := by
  induction u using Nat.strongRecOn with
  | _ u ih =>
    by_cases h : u < 10
    · rw [Lib.decDigits_one h, parse_one _ 0 u h (by omega) (by omega)]
      rw [Nat.zero_mul, Nat.zero_add]
    · have h64 : (2 : Nat) ^ 64 = 18446744073709551616 := by decide
      rw [dec_step u h, parse_snoc _ _ _ _ (u / 10) (ih (u / 10) (by omega) (by omega)), parse_one _ _ _ (Nat.mod_lt _ (by decide)) (by omega) (by omega)]
      congr 1
      omega
theorem parse_itoa (m : Int) (h0 : -9223372036854775808 ≤ m) (h1 : m ≤ 9223372036854775807) : Lib.parseIntB 64 (Lib.itoa m) = .ok m := by
  have h63 : (2 : Nat) ^ (64 - 1) = 9223372036854775808 := by decide
  have h64 : (2 : Nat) ^ 64 = 18446744073709551616 := by decide
  by_cases h : m < 0
  · obtain ⟨a, rfl⟩ : ∃ a : Nat, m = -(a : Int) := ⟨m.natAbs, by omega⟩
    rw [Lib.itoa_neg a (by omega)]
    obtain ⟨b, r, e, hb⟩ := dec_head a
    have hp : Lib.parseUintB 64 (Lib.decDigits a) = .ok a := by
      unfold Lib.parseUintB
      rw [if_neg (by rw [e]; exact List.cons_ne_nil _ _)]
      exact parse_dec a (by omega)
    unfold Lib.parseIntB
    simp only [show (45 : UInt8).toNat = 45 from rfl, or_true, if_true, hp, h63]
    rw [if_neg (by simp), if_neg (by simp; omega)]
  · obtain ⟨a, rfl⟩ : ∃ a : Nat, m = (a : Int) := ⟨m.toNat, by omega⟩
    rw [Lib.itoa_nonneg a]
    obtain ⟨b, r, e, hb⟩ := dec_head a
    have hp : Lib.parseUintB 64 (Lib.decDigits a) = .ok a := by
      unfold Lib.parseUintB
      rw [if_neg (by rw [e]; exact List.cons_ne_nil _ _)]
      exact parse_dec a (by omega)
    rw [e] at hp ⊢
    obtain ⟨n43, n45⟩ := dg_not45 hb
    unfold Lib.parseIntB
    simp only [n43, n45, or_self, if_false, hp, h63]
    rw [if_neg (by simp; omega), if_neg (by simp)]
theorem nDigits_le (k : Nat) : ∀ u : Nat, u < 10 ^ (k + 1) → Lib.nDigits u ≤ k + 1 := by
  induction k with
  | zero => intro u h; rw [Lib.nDigits_small (by simpa using h)]; exact Nat.le_refl _
  | succ k ih =>
    intro u h
    by_cases hs : u < 10
    · rw [Lib.nDigits_small hs]; omega
    · rw [Lib.nDigits_big hs]
      have := ih (u / 10) (by rw [Nat.pow_succ] at h; omega)
      omega
theorem itoa_short (m : Int) (h0 : -1000000000000000 ≤ m) (h1 : m ≤ 1000000000000000) : 1 ≤ (Lib.itoa m).length ∧ (Lib.itoa m).length ≤ 17 := by
  by_cases h : m < 0
  · obtain ⟨a, rfl⟩ : ∃ a : Nat, m = -(a : Int) := ⟨m.natAbs, by omega⟩
    rw [Lib.itoa_neg a (by omega), List.length_cons, Lib.decDigits_length]
    have := nDigits_le 15 a (by omega)
    omega
  · obtain ⟨a, rfl⟩ : ∃ a : Nat, m = (a : Int) := ⟨m.toNat, by omega⟩
    rw [Lib.itoa_nonneg a, Lib.decDigits_length]
    have := nDigits_le 15 a (by omega)
    have := Lib.nDigits_pos a
    omega
def okV (x : Int) : Bool := decide (-1000000000000000 ≤ x) && decide (x ≤ 1000000000000000)
theorem okV_bd {x : Int} (h : okV x = true) : -1000000000000000 ≤ x ∧ x ≤ 1000000000000000 := by
  unfold okV at h
  rw [Bool.and_eq_true] at h
  exact ⟨of_decide_eq_true h.1, of_decide_eq_true h.2⟩
/-- does a text say a number of those that are read? -/
def rdB (l : List UInt8) : Bool := (decide (1 ≤ l.length) && decide (l.length ≤ 17)) && (okV (valV l) && decide (Lib.itoa (valV l) = l))
def rdN (l : List UInt8) : Int := if rdB l = true then valV l else 0
theorem rd_of {l : List UInt8} {v : Int} (h : Lib.parseIntB 64 l = .ok v) (h1 : okV v = true) (h2 : Lib.itoa v = l) : rdB l = true ∧ rdN l = v := by
  have hv : valV l = v := by rw [← h2]; exact val_itoa v
  have hb := okV_bd h1
  have hl := itoa_short v hb.1 hb.2
  rw [h2] at hl
  have e : rdB l = true := by
    unfold rdB
    rw [hv, h1, decide_eq_true h2, decide_eq_true hl.1, decide_eq_true hl.2]; rfl
  exact ⟨e, by unfold rdN; rw [if_pos e, hv]⟩
theorem rd_parse {l : List UInt8} (h : rdB l = true) : Lib.parseIntB 64 l = .ok (valV l) ∧ okV (valV l) = true ∧ Lib.itoa (valV l) = l := by
  unfold rdB at h
  rw [Bool.and_eq_true, Bool.and_eq_true, Bool.and_eq_true] at h
  obtain ⟨_, h1, h2⟩ := h
  have hb := okV_bd h1
  have e := of_decide_eq_true h2
  have := parse_itoa (valV l) (by omega) (by omega)
  rw [e] at this
  exact ⟨this, h1, e⟩
theorem rd_no {l : List UInt8} (h : rdB l = false) : rdN l = 0 := by unfold rdN; rw [h]; rfl
/-- what the program asks behind a number that it has read -/
theorem rd_bad {l : List UInt8} {v : Int} (h : Lib.parseIntB 64 l = .ok v) (h1 : okV v = false ∨ ¬ Lib.itoa v = l) : rdB l = false := by
  cases e : rdB l
  · rfl
  · obtain ⟨a, b, c⟩ := rd_parse e
    rw [h] at a
    have : v = valV l := by injection a
    subst this
    rcases h1 with h1 | h1
    · rw [b] at h1; cases h1
    · exact absurd c h1
theorem rd_err {l : List UInt8} (h : ∀ v, Lib.parseIntB 64 l ≠ .ok v) : rdB l = false := by
  cases e : rdB l
  · rfl
  · exact absurd (rd_parse e).1 (h _)
end Go.Proofs.YtcoehcoohppbjacDoor
