/- Contracts: coins on a balance, the program. -/
import Derived.Test.YtodmaomngpnboaaItC
import Derived.Test.YtodmaomngpnboaaMb
import Derived.Test.YtodmaomngpnboaaDc
set_option linter.unusedVariables false
namespace Go.Proofs.Ytodmaomngpnboaa
open Go.RowKit

/-- the sum of the first k numbers -/
def sumLw (fs : List Int) : Nat → Int
  | 0 => 0
  | k + 1 => sumLw fs k + fs.getD k 0
set_option maxHeartbeats 1000000 in
theorem sumOfw_any (fs : List Int) (v : Value) (w : World) (hn : fs.length ≤ 1048576) (hbd : ∀ k, k ≤ fs.length → -9223372036854775808 ≤ sumLw fs k ∧ sumLw fs k ≤ 9223372036854775807) (h : Sl (Value.int .i64) 0 w v fs) :
    Calls Try.prog 139 #[v] w fun e w' => e = .returned (.int .i64 (sumLw fs fs.length)) ∧ Drawn w w' := by
  obtain ⟨q, cap, rfl, hf⟩ := h
  have Hf := Lib.hid hf
  clear hf
  have Hbd := Lib.hid hbd
  have Hst := Lib.hid (fun k => show sumLw fs (k + 1) = sumLw fs k + fs.getD k 0 from rfl)
  clear hbd
  obtain ⟨n, hn1⟩ : ∃ n, n = fs.length := ⟨_, rfl⟩
  rw [← hn1] at hn Hf Hbd
  rw [← hn1]
  clear hn1
  go_enter Try.func139, Try.ntmps139
  go_wp2
  go_loopw [3, 8] (fun c i wr => ∃ k : Nat, k ≤ n ∧ i = .int .i64 (k : Int) ∧ c = .int .i64 (sumLw fs k) ∧ Drawn w wr) (fun _ i _ => n - (intOf i).toNat)
  case atStart => exact ⟨0, Nat.zero_le _, rfl, rfl, Drawn.refl _⟩
  case round =>
    obtain ⟨k, hk, rfl, rfl, hw⟩ := hrel
    by_cases hlt : k < n
    · obtain ⟨hcap, b, off, rfl, hbs, hcell⟩ := Hf.out (by omega)
      have c1 := (hw.cell _).trans (hcell k hlt)
      have hst := Hst.out k
      have hb1 := Hbd.out (k + 1) (by omega)
      rw [hst] at hb1
      have Hst2 := Lib.hid hst
      obtain ⟨m0, m1⟩ := hb1
      clear hcell hst
      generalize fs.getD k 0 = x at *
      generalize sumLw fs k = S at *
      go_wp2
      go_roundw
      case rel => exact ⟨k + 1, by omega, by go_num, by rw [Hst2.out], hw⟩
      case measure => simp [intOf]; omega
    · obtain rfl : k = n := by omega
      go_wp2
      go_ret
      exact ⟨rfl, hw⟩

theorem sumL_bd (fs : List Int) (h : allB (-1) 1 fs = true) : ∀ k, k ≤ fs.length → -(k : Int) ≤ sumLw fs k ∧ sumLw fs k ≤ k
  | 0, _ => ⟨Int.le_refl _, Int.le_refl _⟩
  | k + 1, hk => by
    have h1 := sumL_bd fs h k (by omega)
    have h2 := allB_at h k (by omega)
    show -(((k + 1 : Nat)) : Int) ≤ sumLw fs k + fs.getD k 0 ∧ sumLw fs k + fs.getD k 0 ≤ ((k + 1 : Nat) : Int)
    omega
/-- the i-th part of k numbers -/
def partL (fs : List Int) (k i : Nat) : List Int := (fs.drop (i * k)).take k
theorem partL_len {fs : List Int} {k cnt i : Nat} (hf : fs.length = cnt * k) (hi : i < cnt) : (partL fs k i).length = k := by
  have h1 : i * k + k ≤ cnt * k := by rw [← Nat.succ_mul]; exact Nat.mul_le_mul_right k hi
  unfold partL
  rw [List.length_take, List.length_drop]; omega
theorem partL_at {fs : List Int} {k i j : Nat} (hj : j < k) : (partL fs k i).getD j 0 = fs.getD (i * k + j) 0 := by
  unfold partL
  simp only [List.getD, List.getElem?_take, List.getElem?_drop]
  rw [if_pos hj]
theorem partL_allB {fs : List Int} {k cnt i : Nat} (hf : fs.length = cnt * k) (hi : i < cnt) (h : allB (-1) 1 fs = true) : allB (-1) 1 (partL fs k i) = true := by
  have h1 : i * k + k ≤ cnt * k := by rw [← Nat.succ_mul]; exact Nat.mul_le_mul_right k hi
  refine allB_of fun j hj => ?_
  rw [partL_len hf hi] at hj
  rw [partL_at hj]
  exact allB_at h _ (by omega)
def sumP (fs : List Int) (k i : Nat) : Int := sumLw (partL fs k i) k
/-- of how many of the first m numbers something holds -/
def cntS (g : Nat → Bool) : Nat → Nat
  | 0 => 0
  | m + 1 => cntS g m + (if g m = true then 1 else 0)
theorem cntS_le (g : Nat → Bool) : ∀ m, cntS g m ≤ m
  | 0 => Nat.le_refl _
  | m + 1 => by have := cntS_le g m; unfold cntS; split <;> omega
theorem cntS_all (g : Nat → Bool) : ∀ m, (((cntS g m : Nat) : Int) == ((m : Nat) : Int)) = (List.range m).all g
  | 0 => rfl
  | m + 1 => by
    have h1 := cntS_all g m
    have h2 := cntS_le g m
    rw [List.range_succ, List.all_append, ← h1]
    show (((cntS g m + (if g m = true then 1 else 0) : Nat) : Int) == ((m + 1 : Nat) : Int)) = ((((cntS g m : Nat) : Int) == ((m : Nat) : Int)) && [m].all g)
    cases hg : g m
    · rw [if_neg Bool.false_ne_true]
      have : (((cntS g m + 0 : Nat) : Int) == ((m + 1 : Nat) : Int)) = false := by rw [beq_eq_false_iff_ne]; omega
      rw [this]; simp [hg]
    · rw [if_pos rfl]
      by_cases e : cntS g m = m
      · rw [e]; simp [hg]
      · have a1 : (((cntS g m + 1 : Nat) : Int) == ((m + 1 : Nat) : Int)) = false := by rw [beq_eq_false_iff_ne]; omega
        have a2 : (((cntS g m : Nat) : Int) == ((m : Nat) : Int)) = false := by rw [beq_eq_false_iff_ne]; omega
        rw [a1, a2]; rfl
def evenB (fs : List Int) (k i : Nat) : Bool := sumP fs k i == 0
def goodP (fs : List Int) (k cnt : Nat) : Bool := allB (-1) 1 fs && (List.range cnt).all (evenB fs k)
theorem clo_even (fs : List Int) (k cnt i L cap : Nat) (p : Option Addr) (w : World) (hk : 1 ≤ k) (hk2 : k ≤ 27) (hf : fs.length = cnt * k) (hi : i < cnt) (ha : allB (-1) 1 fs = true) (h : Sl (Value.int .i64) 0 w (.slice p L cap) fs) :
    Calls Try.prog 138 #[partV p k i] w fun e w' => e = .returned (.bool (evenB fs k i)) ∧ Drawn w w' := by
  have hs := h.partV hk hf i hi
  have hl := partL_len hf hi
  have hb := sumL_bd (partL fs k i) (partL_allB hf hi ha)
  have H := Lib.hid (sumOfw_any (partL fs k i) _ w (by omega) (fun j hj => by have := hb j hj; omega) hs)
  rw [hl] at H
  have HE : Hid ((sumLw (partL fs k i) k == 0) = evenB fs k i) := Lib.hid rfl
  generalize sumLw (partL fs k i) k = S at *
  clear hs hb hl h
  unfold partV at *
  generalize partA p k i = q at *
  go_enter Try.func138, Try.ntmps138
  go_wp2_with fail
  refine H.out.mono ?_
  rintro e w' ⟨rfl, hd⟩
  have Hd := Lib.hid hd
  clear hd
  go_wp2
  go_ret
  exact ⟨ret_bool HE.out, Hd.out⟩
set_option maxHeartbeats 1000000 in
theorem countE_any (fs : List Int) (k cnt L cap : Nat) (p : Option Addr) (r : Value) (w : World) (hk : 1 ≤ k) (hk2 : k ≤ 27) (hc : cnt ≤ 4) (hf : fs.length = cnt * k) (ha : allB (-1) 1 fs = true) (h : Sl (Value.int .i64) 0 w (.slice p L cap) fs) (hr : Sl (partV p k) 0 w r (List.range cnt)) :
    Calls Try.prog 137 #[r, .func (.func 138) #[] #[]] w fun e w' => e = .returned (.int .i64 ((cntS (evenB fs k) cnt : Nat) : Int)) ∧ Drawn w w' := by
  have Hc := Lib.hid (fun i z (hi : i < cnt) (hz : Drawn w z) => clo_even fs k cnt i L cap p z hk hk2 hf hi ha (h.drawn hz))
  obtain ⟨q, capr, rfl, hrf⟩ := hr
  have Hr := Lib.hid hrf
  rw [List.length_range] at Hr ⊢
  have Hst := Lib.hid (fun m => show cntS (evenB fs k) (m + 1) = cntS (evenB fs k) m + (if evenB fs k m = true then 1 else 0) from rfl)
  have Hle := Lib.hid (fun m => cntS_le (evenB fs k) m)
  clear hf ha h hrf
  go_enter Try.func137, Try.ntmps137
  go_wp2
  go_loopw [5, 10] (fun c i wr => ∃ m : Nat, m ≤ cnt ∧ i = .int .i64 (m : Int) ∧ c = .int .i64 ((cntS (evenB fs k) m : Nat) : Int) ∧ Hid (Drawn w wr)) (fun _ i _ => cnt - (intOf i).toNat)
  case atStart => exact ⟨0, Nat.zero_le _, rfl, rfl, Lib.hid (Drawn.refl _)⟩
  case round =>
    obtain ⟨m, hm, rfl, rfl, hd⟩ := hrel
    by_cases hlt : m < cnt
    · obtain ⟨hcap, b, off, rfl, hbs, hcell⟩ := Hr.out (by omega)
      have c1 := (hd.out.cell _).trans (hcell m hlt)
      rw [show (List.range cnt).getD m 0 = m from by simp [List.getD, hlt]] at c1
      have HC := Lib.hid (Hc.out m wr hlt hd.out)
      have hst := Hst.out m
      have hle := Hle.out m
      clear hcell
      unfold partV at *
      generalize partA p k m = q2 at *
      cases hp : evenB fs k m
      · rw [hp] at hst HC
        rw [if_neg Bool.false_ne_true, Nat.add_zero] at hst
        have Hst2 := Lib.hid hst
        clear hst hp
        go_wp2_with (refine (HC.out).mono ?_; rintro e w' ⟨rfl, hd2⟩; have Hd2 := Lib.hid hd2; clear hd2)
        go_roundw
        case rel => exact ⟨m + 1, by omega, by go_num, by rw [Hst2.out]; rfl, Lib.hid (hd.out.trans Hd2.out)⟩
        case measure => simp [intOf]; omega
      · rw [hp] at hst HC
        rw [if_pos rfl] at hst
        have Hst2 := Lib.hid hst
        clear hst hp
        generalize cntS (evenB fs k) m = C at *
        go_wp2_with (refine (HC.out).mono ?_; rintro e w' ⟨rfl, hd2⟩; have Hd2 := Lib.hid hd2; clear hd2)
        go_roundw
        case rel => exact ⟨m + 1, by omega, by go_num, by rw [Hst2.out]; go_num, Lib.hid (hd.out.trans Hd2.out)⟩
        case measure => simp [intOf]; omega
    · obtain rfl : cnt = m := by omega
      go_wp2
      go_ret
      exact ⟨rfl, hd.out⟩
end Go.Proofs.Ytodmaomngpnboaa
