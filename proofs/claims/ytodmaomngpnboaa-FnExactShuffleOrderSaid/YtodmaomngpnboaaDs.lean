/- Counts of descents and of matches; riffles back; shuffles that make a new deck again. Nothing of a translation. -/
import Derived.Test.YtodmaomngpnboaaDr
set_option linter.unusedVariables false
namespace Go.Proofs.Ytodmaomngpnboaa

/-! ### descents -/
/-- the rows of how many decks of 1, 2, .. cards have 0, 1, .. descents -/
def eulT : List (List Nat) := [[1],
  [1, 1],
  [1, 4, 1],
  [1, 11, 11, 1],
  [1, 26, 66, 26, 1],
  [1, 57, 302, 302, 57, 1],
  [1, 120, 1191, 2416, 1191, 120, 1],
  [1, 247, 4293, 15619, 15619, 4293, 247, 1],
  [1, 502, 14608, 88234, 156190, 88234, 14608, 502, 1],
  [1, 1013, 47840, 455192, 1310354, 1310354, 455192, 47840, 1013, 1],
  [1, 2036, 152637, 2203488, 9738114, 15724248, 9738114, 2203488, 152637, 2036, 1],
  [1, 4083, 478271, 10187685, 66318474, 162512286, 162512286, 66318474, 10187685, 478271, 4083, 1],
  [1, 8178, 1479726, 45533450, 423281535, 1505621508, 2275172004, 1505621508, 423281535, 45533450, 1479726, 8178, 1],
  [1, 16369, 4537314, 198410786, 2571742175, 12843262863, 27971176092, 27971176092, 12843262863, 2571742175, 198410786, 4537314, 16369, 1],
  [1, 32752, 13824739, 848090912, 15041229521, 102776998928, 311387598411, 447538817472, 311387598411, 102776998928, 15041229521, 848090912, 13824739, 32752, 1],
  [1, 65519, 41932745, 3572085255, 85383238549, 782115518299, 3207483178157, 6382798925475, 6382798925475, 3207483178157, 782115518299, 85383238549, 3572085255, 41932745, 65519, 1],
  [1, 131054, 126781020, 14875399450, 473353301060, 5717291972382, 31055652948388, 83137223185370, 114890380658550, 83137223185370, 31055652948388, 5717291972382, 473353301060, 14875399450, 126781020, 131054, 1],
  [1, 262125, 382439924, 61403313100, 2575022097600, 40457344748072, 285997074307300, 1006709967915228, 1865385657780650, 1865385657780650, 1006709967915228, 285997074307300, 40457344748072, 2575022097600, 61403313100, 382439924, 262125, 1],
  [1, 524268, 1151775897, 251732291184, 13796160184500, 278794377854832, 2527925001876036, 11485644635009424, 27862280567093358, 37307713155613000, 27862280567093358, 11485644635009424, 2527925001876036, 278794377854832, 13796160184500, 251732291184, 1151775897, 524268, 1],
  [1, 1048555, 3464764515, 1026509354985, 73008517581444, 1879708669896492, 21598596303099900, 124748182104463860, 388588260723953310, 679562217794156938, 679562217794156938, 388588260723953310, 124748182104463860, 21598596303099900, 1879708669896492, 73008517581444, 1026509354985, 3464764515, 1048555, 1]]
def eul (n k : Nat) : Nat := (eulT.getD n []).getD k 0
theorem eul_zero (n : Nat) (h : n < 20) : eul n 0 = 1 := (by decide +kernel : ∀ n, n < 20 → eul n 0 = 1) n h
theorem eul_first (k : Nat) (h : k < 21) (h0 : 0 < k) : eul 0 k = 0 := (by decide +kernel : ∀ k, k < 21 → 0 < k → eul 0 k = 0) k h h0
theorem eul_over (n : Nat) (h : n < 20) (k : Nat) (hk : k < 21) (h0 : n < k) : eul n k = 0 := (by decide +kernel : ∀ n, n < 20 → ∀ k, k < 21 → n < k → eul n k = 0) n h k hk h0
theorem eul_step (n : Nat) (h : n < 19) (k : Nat) (hk : k < 20) (h0 : 0 < k) (h1 : k ≤ n + 1) : eul (n + 1) k = (k + 1) * eul n k + (n + 2 - k) * eul n (k - 1) := (by decide +kernel : ∀ n, n < 19 → ∀ k, k < 20 → 0 < k → k ≤ n + 1 → eul (n + 1) k = (k + 1) * eul n k + (n + 2 - k) * eul n (k - 1)) n h k hk h0 h1
theorem eul_bd (n : Nat) (h : n < 20) (k : Nat) (hk : k < 21) : eul n k < 1000000000000000000 := (by decide +kernel : ∀ n, n < 20 → ∀ k, k < 21 → eul n k < 1000000000000000000) n h k hk
theorem eul_mul_bd (n : Nat) (h : n < 19) (k : Nat) (hk : k < 20) : (k + 1) * eul n k < 1000000000000000000 ∧ (n + 2 - k) * eul n (k - 1) < 1000000000000000000 := (by decide +kernel : ∀ n, n < 19 → ∀ k, k < 20 → (k + 1) * eul n k < 1000000000000000000 ∧ (n + 2 - k) * eul n (k - 1) < 1000000000000000000) n h k hk
def ok_DescentCounts (a : Int) : Bool := decide (1 ≤ a) && decide (a ≤ 20)
def res_DescentCounts (a : Int) : List Int := if 1 ≤ a ∧ a ≤ 20 then tab a.toNat (fun k => (eul (a.toNat - 1) k : Int)) else []

/-! ### matches -/
/-- orders of n cards of which none is its own place -/
def awT : List Nat := [1, 0, 1, 2, 9, 44, 265, 1854, 14833, 133496, 1334961, 14684570, 176214841, 2290792932, 32071101049, 481066515734, 7697064251745, 130850092279664, 2355301661033953, 44750731559645106, 895014631192902121]
def aw (n : Nat) : Nat := awT.getD n 0
theorem aw_step (n : Nat) (h : n < 20) : ((n + 1 : Nat) : Int) * (aw n : Int) + (if n % 2 = 0 then -1 else 1) = (aw (n + 1) : Int) := (by decide +kernel : ∀ n, n < 20 → ((n + 1 : Nat) : Int) * (aw n : Int) + (if n % 2 = 0 then -1 else 1) = (aw (n + 1) : Int)) n h
theorem aw_two (n : Nat) (h : n < 19) : (n + 1) * (aw (n + 1) + aw n) = aw (n + 2) := (by decide +kernel : ∀ n, n < 19 → (n + 1) * (aw (n + 1) + aw n) = aw (n + 2)) n h
theorem aw_bd (n : Nat) (h : n < 21) : aw n < 1000000000000000000 ∧ n * aw (n - 1) < 1000000000000000000 := (by decide +kernel : ∀ n, n < 21 → aw n < 1000000000000000000 ∧ n * aw (n - 1) < 1000000000000000000) n h
theorem match_bd (n : Nat) (h : n < 21) (k : Nat) (hk : k ≤ n) : setsR n k * aw (n - k) < 1000000000000000000 := (by decide +kernel : ∀ n, n < 21 → ∀ k, k < 21 → k ≤ n → setsR n k * aw (n - k) < 1000000000000000000) n h k (by omega) hk
def ok_MatchCounts (a : Int) : Bool := decide (1 ≤ a) && decide (a ≤ 20)
def res_MatchCounts (a : Int) : List Int := if 1 ≤ a ∧ a ≤ 20 then tab (a.toNat + 1) (fun k => ((setsR a.toNat k * aw (a.toNat - k) : Nat) : Int)) else []

/-! ### riffles -/
def pickR (fs : List Int) (bs : List Bool) (b : Bool) : Nat → List Int
  | 0 => []
  | k + 1 => pickR fs bs b k ++ (if bs.getD k false = b then [fs.getD k 0] else [])
theorem pickR_f (fs : List Int) (bs : List Bool) (k : Nat) : (pickR fs bs false k).length = cntF bs k := by
  induction k with
  | zero => rfl
  | succ k ih =>
    simp only [pickR, List.length_append, ih, cntF]
    cases bs.getD k false <;> simp
theorem pickR_t (fs : List Int) (bs : List Bool) (k : Nat) : (pickR fs bs true k).length = k - cntF bs k := by
  induction k with
  | zero => rfl
  | succ k ih =>
    have := cntF_le bs k
    simp only [pickR, List.length_append, ih, cntF]
    cases bs.getD k false <;> simp <;> omega
def unrR (fs : List Int) (bs : List Bool) : Nat → List Int
  | 0 => List.replicate fs.length 0
  | k + 1 => (unrR fs bs k).set (befG bs k) (fs.getD k 0)
theorem unrR_len (fs : List Int) (bs : List Bool) (k : Nat) : (unrR fs bs k).length = fs.length := by
  induction k with
  | zero => simp [unrR]
  | succ k ih => simp [unrR, ih]
theorem set_gap (A B : List Int) (m : Nat) (x : Int) : (A ++ (List.replicate (m + 1) 0 ++ B)).set A.length x = (A ++ [x]) ++ (List.replicate m 0 ++ B) := by
  rw [List.set_append_right _ _ (Nat.le_refl _), Nat.sub_self, List.replicate_succ]
  simp
theorem unr_inv (fs : List Int) (bs : List Bool) (he : bs.length = fs.length) (k : Nat) (hk : k ≤ bs.length) :
    unrR fs bs k = pickR fs bs false k ++ (List.replicate (cntF bs bs.length - cntF bs k) 0 ++ (pickR fs bs true k ++ List.replicate (bs.length - cntF bs bs.length - (k - cntF bs k)) 0)) := by
  induction k with
  | zero =>
    have := cntF_le bs bs.length
    simp only [unrR, pickR, cntF, List.nil_append, Nat.sub_zero]
    rw [List.replicate_append_replicate]
    congr 1
    omega
  | succ k ih =>
    have h1 := cntF_mono bs (k + 1) (bs.length - (k + 1))
    rw [show k + 1 + (bs.length - (k + 1)) = bs.length by omega] at h1
    have h2 := cntF_le bs k
    have lf := pickR_f fs bs k
    have lt := pickR_t fs bs k
    rw [unrR, ih (by omega)]
    simp only [cntF] at h1
    unfold befG
    by_cases e : bs.getD k false = true
    · rw [if_pos e] at h1 ⊢
      simp only [pickR, cntF, e, Bool.true_eq_false, if_false, List.append_nil]
      have ep : cntF bs bs.length + (k - cntF bs k) = (pickR fs bs false k ++ (List.replicate (cntF bs bs.length - cntF bs k) 0 ++ pickR fs bs true k)).length := by
        simp only [List.length_append, lf, lt, List.length_replicate]; omega
      have er : bs.length - cntF bs bs.length - (k - cntF bs k) = (bs.length - cntF bs bs.length - (k + 1 - cntF bs k)) + 1 := by omega
      have := set_gap (pickR fs bs false k ++ (List.replicate (cntF bs bs.length - cntF bs k) 0 ++ pickR fs bs true k)) [] (bs.length - cntF bs bs.length - (k + 1 - cntF bs k)) (fs.getD k 0)
      rw [← ep, List.append_nil, List.append_nil, ← er] at this
      simpa [List.append_assoc] using this
    · rw [if_neg e] at h1 ⊢
      have e' : bs.getD k false = false := by simpa using e
      simp only [pickR, cntF, e', Bool.false_eq_true, if_true, if_false, List.append_nil]
      have er : cntF bs bs.length - cntF bs k = (cntF bs bs.length - (cntF bs k + 1)) + 1 := by omega
      have ek : k + 1 - (cntF bs k + 1) = k - cntF bs k := by omega
      have := set_gap (pickR fs bs false k) (pickR fs bs true k ++ List.replicate (bs.length - cntF bs bs.length - (k - cntF bs k)) 0) (cntF bs bs.length - (cntF bs k + 1)) (fs.getD k 0)
      rw [← er, lf] at this
      rw [ek]
      exact this
theorem unr_done (fs : List Int) (bs : List Bool) (he : bs.length = fs.length) : unrR fs bs bs.length = pickR fs bs false bs.length ++ pickR fs bs true bs.length := by
  have := cntF_le bs bs.length
  rw [unr_inv fs bs he bs.length (Nat.le_refl _), Nat.sub_self, Nat.sub_self]
  simp
def ok_UnriffleBy (fs : List Int) (bs : List Bool) : Bool := deckB fs && decide (bs.length = fs.length)
def res_UnriffleBy (fs : List Int) (bs : List Bool) : List Int := if deckB fs = true ∧ bs.length = fs.length then unrR fs bs bs.length else []

/-! ### perfect shuffles -/
def perfL (b : Bool) (l : List Int) : List Int := tab l.length (perfG l b)
def iotaL (n : Nat) : List Int := tab n fun k => (k : Int)
def iterP (b : Bool) (l : List Int) : Nat → List Int
  | 0 => l
  | k + 1 => perfL b (iterP b l k)
theorem iterP_len (b : Bool) (l : List Int) (k : Nat) : (iterP b l k).length = l.length := by
  induction k with
  | zero => rfl
  | succ k ih => rw [iterP, perfL, tab_len, ih]
theorem iterP_front (b : Bool) (l : List Int) (k : Nat) : iterP b (perfL b l) k = iterP b l (k + 1) := by
  induction k with
  | zero => rfl
  | succ k ih => rw [iterP, ih]; rfl
/-- how many more shuffles make the deck l the deck l0, with fuel -/
def seek (b : Bool) (l0 : List Int) : Nat → List Int → Option Nat
  | 0, _ => none
  | f + 1, l => if l = l0 then some 0 else (seek b l0 f (perfL b l)).map (· + 1)
theorem seek_spec (b : Bool) (l0 : List Int) : ∀ (f : Nat) (l : List Int) (t : Nat), seek b l0 f l = some t → iterP b l t = l0 ∧ t < f ∧ ∀ j, j < t → iterP b l j ≠ l0
  | 0, _, _, h => by cases h
  | f + 1, l, t, h => by
    unfold seek at h
    by_cases e : l = l0
    · rw [if_pos e] at h
      obtain rfl := Option.some.inj h
      exact ⟨e, Nat.succ_pos _, fun j hj => absurd hj (Nat.not_lt_zero _)⟩
    · rw [if_neg e, Option.map_eq_some_iff] at h
      obtain ⟨t', h1, rfl⟩ := h
      obtain ⟨g1, g2, g3⟩ := seek_spec b l0 f _ t' h1
      refine ⟨by rw [← iterP_front]; exact g1, by omega, fun j hj => ?_⟩
      cases j with
      | zero => exact e
      | succ j => rw [← iterP_front]; exact g3 j (by omega)
def ordT (n : Nat) (b : Bool) : Nat := ((seek b (iotaL n) 60 (perfL b (iotaL n))).getD 0) + 1
set_option maxRecDepth 100000 in
theorem ordT_some : ∀ m, m < 27 → ∀ b, (seek b (iotaL (2 * m)) 60 (perfL b (iotaL (2 * m)))).isSome = true := by decide +kernel
theorem ordT_spec (n : Nat) (hn : n ≤ 52) (h2 : n % 2 = 0) (b : Bool) : iterP b (iotaL n) (ordT n b) = iotaL n ∧ ordT n b ≤ 60 ∧ 1 ≤ ordT n b ∧ ∀ j, 0 < j → j < ordT n b → iterP b (iotaL n) j ≠ iotaL n := by
  obtain ⟨m, rfl⟩ : ∃ m, n = 2 * m := ⟨n / 2, by omega⟩
  obtain ⟨t, ht⟩ := Option.isSome_iff_exists.1 (ordT_some m (by omega) b)
  obtain ⟨g1, g2, g3⟩ := seek_spec _ _ _ _ _ ht
  have e : ordT (2 * m) b = t + 1 := by unfold ordT; rw [ht]; rfl
  rw [e]
  refine ⟨by rw [← iterP_front]; exact g1, by omega, by omega, fun j h0 hj => ?_⟩
  obtain ⟨i, rfl⟩ : ∃ i, j = i + 1 := ⟨j - 1, by omega⟩
  rw [← iterP_front]
  exact g3 i (by omega)
def ok_ShuffleOrder (a : Int) (b : Bool) : Bool := (decide (1 ≤ a) && decide (a ≤ 52)) && decide (a % 2 = 0)
def res_ShuffleOrder (a : Int) (b : Bool) : Int := if (1 ≤ a ∧ a ≤ 52) ∧ a % 2 = 0 then (ordT a.toNat b : Int) else 0
end Go.Proofs.Ytodmaomngpnboaa
