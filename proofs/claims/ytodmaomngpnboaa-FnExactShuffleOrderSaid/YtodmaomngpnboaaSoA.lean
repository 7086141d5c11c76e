/- Contracts: perfect shuffles in turn: they are decks; the model. -/
import Derived.Test.YtodmaomngpnboaaDs
import Derived.Test.YtodmaomngpnboaaDx
import Derived.Test.YtodmaomngpnboaaDy
import Derived.Test.YtodmaomngpnboaaDi
import Derived.Test.YtodmaomngpnboaaWb
import Derived.Test.YtodmaomngpnboaaMc
set_option linter.unusedVariables false
namespace Go.Proofs.Ytodmaomngpnboaa
open Go.RowKit

theorem ord_ne {fs : List Int} (h : ordB fs = true) (i k : Nat) (hi : i < k) (hk : k < fs.length) : fs.getD i 0 ≠ fs.getD k 0 := fun e => by
  have := (goodAt_bd (ordB_at h k hk)).2.2
  rw [Bool.eq_false_iff] at this
  refine this (List.contains_iff_mem.2 ?_)
  rw [← e, List.mem_iff_getElem]
  exact ⟨i, by rw [List.length_take]; omega, by rw [List.getElem_take, getD_lt _ _ _ (by omega)]⟩
theorem ordB_of {fs : List Int} (h : ∀ k, k < fs.length → 0 ≤ fs.getD k 0 ∧ fs.getD k 0 < fs.length) (g : ∀ i k, i < k → k < fs.length → fs.getD i 0 ≠ fs.getD k 0) : ordB fs = true := by
  refine ordB_good fs fun k hk => ?_
  rw [goodAt_in fs k (h k hk).1 (h k hk).2]
  have : (fs.take k).contains (fs.getD k 0) = false := by
    rw [Bool.eq_false_iff]
    intro hc
    obtain ⟨i, hi, e⟩ := List.getElem_of_mem (List.contains_iff_mem.1 hc)
    rw [List.length_take] at hi
    rw [List.getElem_take] at e
    exact g i k (by omega) hk (by rw [getD_lt _ _ _ (by omega : i < fs.length)]; exact e)
  rw [this]; rfl
/-- the place from which a card comes -/
def perfI (n : Nat) (b : Bool) (p : Nat) : Nat := if (decide (p % 2 = 1) != b) = true then n / 2 + p / 2 else p / 2
theorem perfI_of (fs : List Int) (b : Bool) (p : Nat) : perfG fs b p = fs.getD (perfI fs.length b p) 0 := by
  unfold perfI
  cases h : (decide (p % 2 = 1) != b)
  · rw [if_neg Bool.false_ne_true]; exact perfG_lo fs b p h
  · rw [if_pos rfl]; exact perfG_hi fs b p h
theorem perfI_lt (n : Nat) (b : Bool) (p : Nat) (he : n % 2 = 0) (hp : p < n) : perfI n b p < n := by
  unfold perfI; split <;> omega
theorem perfI_inj (n : Nat) (b : Bool) (p q : Nat) (he : n % 2 = 0) (hpq : p < q) (hq : q < n) : perfI n b p ≠ perfI n b q := by
  unfold perfI
  cases b
  · by_cases h1 : p % 2 = 1 <;> by_cases h2 : q % 2 = 1 <;> simp [h1, h2] <;> omega
  · by_cases h1 : p % 2 = 1 <;> by_cases h2 : q % 2 = 1 <;> simp [h1, h2] <;> omega
theorem perf_deck (b : Bool) (l : List Int) (h : deckB l = true) (he : l.length % 2 = 0) : deckB (perfL b l) = true := by
  obtain ⟨l1, l2, l3⟩ := deckB_len h
  have hlen : (perfL b l).length = l.length := tab_len _ _
  have hat : ∀ k, k < l.length → (perfL b l).getD k 0 = l.getD (perfI l.length b k) 0 := fun k hk => by
    unfold perfL
    rw [tab_get _ _ _ hk, perfI_of]
  rw [deckB_ord _ (by omega) (by omega)]
  refine ordB_of (fun k hk => ?_) (fun i k hi hk => ?_)
  · rw [hlen] at hk ⊢
    rw [hat k hk]
    exact deckB_bd h _ (perfI_lt _ b k he hk)
  · rw [hlen] at hk
    rw [hat i (by omega), hat k hk]
    have hne := perfI_inj l.length b i k he hi hk
    have b1 := perfI_lt l.length b i he (by omega)
    have b2 := perfI_lt l.length b k he hk
    rcases Nat.lt_or_ge (perfI l.length b i) (perfI l.length b k) with h1 | h1
    · exact ord_ne l3 _ _ h1 b2
    · exact fun e => ord_ne l3 _ _ (by omega : perfI l.length b k < perfI l.length b i) b1 e.symm
theorem iota_len (n : Nat) : (iotaL n).length = n := tab_len _ _
theorem iter_deck (b : Bool) (n : Nat) (h1 : 1 ≤ n) (h2 : n ≤ 52) (he : n % 2 = 0) : ∀ j, deckB (iterP b (iotaL n) j) = true
  | 0 => iota_deck n h1 h2
  | j + 1 => perf_deck b _ (iter_deck b n h1 h2 he j) (by rw [iterP_len, iota_len]; exact he)
theorem ret_ib {a c : Int} {x y : Bool} (h : a = c) (g : x = y) : Ending.returned (.tuple #[.int .i64 a, .bool x]) = .returned (.tuple #[.int .i64 c, .bool y]) := by rw [h, g]
theorem so_yes {n : Nat} (b : Bool) (h1 : 1 ≤ n) (h2 : n ≤ 52) (he : n % 2 = 0) : ok_ShuffleOrder (n : Int) b = true ∧ res_ShuffleOrder (n : Int) b = (ordT n b : Int) := by
  unfold ok_ShuffleOrder res_ShuffleOrder
  rw [if_pos ⟨⟨by omega, by omega⟩, by omega⟩, decide_eq_true (by omega), decide_eq_true (by omega), decide_eq_true (by omega), Int.toNat_natCast]
  exact ⟨rfl, rfl⟩
theorem so_no {a : Int} (b : Bool) (h : ¬ ((1 ≤ a ∧ a ≤ 52) ∧ a % 2 = 0)) : ok_ShuffleOrder a b = false ∧ res_ShuffleOrder a b = 0 := by
  unfold ok_ShuffleOrder res_ShuffleOrder
  rw [if_neg h]
  refine ⟨?_, rfl⟩
  rw [Bool.eq_false_iff]
  intro h'
  simp only [Bool.and_eq_true, decide_eq_true_eq] at h'
  exact h h'
set_option maxHeartbeats 2000000 in
theorem spec_ShuffleOrder (a : Int) (al : -9223372036854775808 ≤ a) (au : a ≤ 9223372036854775807) (b : Bool) (w : World) :
    Calls Try.prog 65 #[.int .i64 a, .bool b] w fun e w' => e = .returned (.tuple #[.int .i64 (res_ShuffleOrder a b), .bool (ok_ShuffleOrder a b)]) ∧ Below w.heap.size w w' := by
  have HI := Lib.hid (fun z => inB_any a 1 52 z)
  by_cases hin : 1 ≤ a ∧ a ≤ 52
  · rw [decide_eq_true hin.1, decide_eq_true hin.2] at HI
    obtain ⟨n, rfl⟩ : ∃ n : Nat, a = n := ⟨a.toNat, by omega⟩
    by_cases he : n % 2 = 0
    · obtain ⟨e1, e2⟩ := so_yes b (by omega) (by omega) he
      obtain ⟨t1, t2, t3, t4⟩ := ordT_spec n (by omega) he b
      have E1 := Lib.hid e1
      have E2 := Lib.hid e2
      have hm : ((n : Int) % 2 != 0) = false := by simp; omega
      have hm2 : (n : Int) % 2 = 0 := by omega
      have HN := Lib.hid (fun z => l02New_any n z (by omega))
      have HP := Lib.hid (fun j v z hz => perfect_any (iterP b (iotaL n) j) v b z (by rw [iterP_len, iota_len]; omega) (by rw [iterP_len, iota_len]; exact he) hz)
      have Hs := Lib.hid (fun j => (show tab (iterP b (iotaL n) j).length (perfG (iterP b (iotaL n) j) b) = iterP b (iotaL n) (j + 1) from rfl))
      have HSame := Lib.hid (fun j v u z h1 h2 => sameS_any (iterP b (iotaL n) j) (iotaL n) v u z (by rw [iterP_len, iota_len]; omega) (by rw [iota_len]; omega) h1 h2)
      have H0 := Lib.hid (show iterP b (iotaL n) 0 = iotaL n from rfl)
      have T1 := Lib.hid t1
      have T4 := Lib.hid t4
      obtain ⟨n1, n2⟩ := hin
      clear t1 t4 e1 e2 he
      go_enter Try.func65, Try.ntmps65
      go_wp2_with (first | (go_at_call 68; refine (HI.out _).mono ?_; rintro e w' ⟨rfl, rfl⟩) | fail)
      refine (HN.out _).mono ?_
      rintro e w1 ⟨r1, rfl, hr1, hb1⟩
      have Hr1 := Lib.hid (Sw.of_owns (d := 0) hr1 (tab_len _ _)).sl
      have Hb1 := Lib.hid hb1
      clear hr1 hb1
      go_wp2_with fail
      refine (HP.out 0 _ _ Hr1.out).mono ?_
      rintro e w2 ⟨r2, rfl, hr2, hb2⟩
      rw [Hs.out] at hr2
      have Hr2 := Lib.hid hr2.sl
      have Hb2 := Lib.hid (Hb1.out.trans (hb2.mono Hb1.out.size))
      have Hr1' := Lib.hid (Hr1.out.later hb2)
      clear hr2 hb2 Hb1 Hr1
      go_wp2_with fail
      go_loopw [7, 8] (fun x c wr => ∃ j : Nat, 1 ≤ j ∧ j ≤ ordT n b ∧ c = .int .i64 (j : Int) ∧ Hid (Sl (Value.int .i64) 0 wr x (iterP b (iotaL n) j)) ∧ Hid (Below w2.heap.size w2 wr)) (fun _ c _ => ordT n b - (intOf c).toNat)
      case atStart => exact ⟨1, Nat.le_refl _, t3, rfl, Hr2, Lib.hid (Below.refl _ _)⟩
      case round =>
        obtain ⟨j, j1, j2, rfl, hx, hB⟩ := hrel
        have HS := Lib.hid (HSame.out j _ _ wr hx.out (Hr1'.out.later hB.out))
        by_cases hj : j = ordT n b
        · have e := T1.out
          rw [← hj] at e
          rw [decide_eq_true e] at HS
          have E3 := Lib.hid (show (j : Int) = res_ShuffleOrder (n : Int) b by rw [E2.out, hj])
          clear e hj
          go_wp2_with fail
          refine HS.out.mono ?_
          rintro e w3 ⟨rfl, hd⟩
          have HE := Lib.hid (Hb2.out.trans ((hB.out.trans (hd.below _)).mono Hb2.out.size))
          clear hd
          go_wp2
          go_ret2
          exact ⟨ret_ib E3.out E1.out.symm, HE.out⟩
        · have e := T4.out j (by omega) (by omega)
          rw [decide_eq_false e] at HS
          clear e
          go_wp2_with fail
          refine HS.out.mono ?_
          rintro e w3 ⟨rfl, hd⟩
          have hx3 := Lib.hid (hx.out.drawn hd)
          have HB3 := Lib.hid (hB.out.trans (hd.below w2.heap.size))
          clear hd
          go_wp2_with fail
          refine (HP.out j _ _ hx3.out).mono ?_
          rintro e w4 ⟨r4, rfl, hr4, hb4⟩
          rw [Hs.out] at hr4
          have Hr4 := Lib.hid hr4.sl
          have HB4 := Lib.hid (HB3.out.trans (hb4.mono HB3.out.size))
          clear hr4 hb4
          go_wp2
          go_roundw
          case rel => exact ⟨j + 1, by omega, by omega, by go_num, Hr4, HB4⟩
          case measure => simp [intOf]; omega
    · obtain ⟨e1, e2⟩ := so_no (a := (n : Int)) b (by omega)
      rw [e1, e2]
      have hm : ((n : Int) % 2 != 0) = true := by simp; omega
      have hm2 : ((n : Int) % 2 = 0) = False := eq_false (by omega)
      clear e1 e2 he
      go_enter Try.func65, Try.ntmps65
      go_wp2_with (first | (go_at_call 68; refine (HI.out _).mono ?_; rintro e w' ⟨rfl, rfl⟩) | fail)
      go_ret2
      exact ⟨rfl, Below.refl _ _⟩
  · obtain ⟨e1, e2⟩ := so_no b (fun h => hin h.1)
    rw [e1, e2]
    have hb : (decide (1 ≤ a) && decide (a ≤ 52)) = false := by rw [← Bool.decide_and]; exact decide_eq_false hin
    rw [hb] at HI
    clear e1 e2 hb hin
    go_enter Try.func65, Try.ntmps65
    go_wp2_with (first | (go_at_call 68; refine (HI.out _).mono ?_; rintro e w' ⟨rfl, rfl⟩) | fail)
    go_ret2
    exact ⟨rfl, Below.refl _ _⟩
end Go.Proofs.Ytodmaomngpnboaa
