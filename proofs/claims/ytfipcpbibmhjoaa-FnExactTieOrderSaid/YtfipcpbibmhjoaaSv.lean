/- Contracts: who is left behind each round: pure, and the program. -/
import Derived.Test.YtfipcpbibmhjoaaSf
import Derived.Test.YtfipcpbibmhjoaaSg
import Derived.Test.YtfipcpbibmhjoaaDb
import Derived.Test.YtfipcpbibmhjoaaDc
set_option linter.unusedVariables false
namespace Go.Proofs.Ytfipcpbibmhjoaa
open Go.RowKit
theorem own_addK {w : World} {base : Nat} {e : TypeId} {v : Value} {l : List Int} {x : Int} (h : w.ownsRow base e 1 v (l.length + 1) (l.map (Value.int .i64) ++ [.int .i64 x])) : w.ownsRow base e 1 v (l ++ [x]).length ((l ++ [x]).map (Value.int .i64)) := by
  rw [List.length_append, List.map_append]; exact h
/-- all that have come behind j games -/
def cameL (p : Nat) (ws : List Bool) : Nat → List Int
  | 0 => tab p (fun k => (k : Int))
  | j + 1 => cameL p ws j ++ [(cameL p ws j).getD (if ws.getD j false = true then 2 * j else 2 * j + 1) 0]
theorem cameL_len (p : Nat) (ws : List Bool) : ∀ j, (cameL p ws j).length = p + j
  | 0 => tab_len _ _
  | j + 1 => by rw [cameL, List.length_append, cameL_len p ws j]; rfl
theorem cameL_get (p : Nat) (ws : List Bool) (j i : Nat) (h : i < p + j) : ∀ d, (cameL p ws (j + d)).getD i 0 = (cameL p ws j).getD i 0
  | 0 => rfl
  | d + 1 => by
    rw [← cameL_get p ws j i h d]
    show (cameL p ws (j + d) ++ [_]).getD i 0 = _
    simp only [List.getD]
    rw [List.getElem?_append_left (by rw [cameL_len]; omega)]
def upB (P : Int) : Bool := decide (P = 2 ∨ P = 4 ∨ P = 8 ∨ P = 16)
def knB (ws : List Bool) (P : Int) : Bool := upB P && decide ((ws.length : Int) = P - 1)
def ok_KnockRounds (ws : List Bool) (P : Int) : Bool := knB ws P
def res_KnockRounds (ws : List Bool) (P : Int) : List Int := if knB ws P = true then (cameL P.toNat ws ws.length).drop P.toNat else []
theorem len_KnockRounds (ws : List Bool) (P : Int) : (res_KnockRounds ws P).length ≤ 1048576 := by
  unfold res_KnockRounds
  split
  · rename_i h
    unfold knB upB at h
    rw [Bool.and_eq_true] at h
    have h1 := of_decide_eq_true h.1
    have h2 := of_decide_eq_true h.2
    rw [List.length_drop, cameL_len]
    omega
  · exact Nat.zero_le _
theorem clo_knock (k : Nat) (w : World) : Calls Try.prog 87 #[.int .i64 (k : Int)] w fun e w' => e = .returned (.int .i64 (k : Int)) ∧ Drawn w w' := by
  go_enter Try.func87, Try.ntmps87
  go_wp2
  go_ret
  exact ⟨rfl, Drawn.refl _⟩
set_option maxHeartbeats 1000000 in
theorem deckBy_own (n K : Nat) (caps : Array Value) (g : Nat → Int) (w : World) (hn : n ≤ 1048576)
    (hent : ∀ args w, (callFunc K args).run Try.prog w = .ok (.enter K args) w)
    (hc : ∀ k w', k < n → Below w.heap.size w w' → Calls Try.prog K (#[.int .i64 (k : Int)] ++ caps) w' fun e w'' => e = .returned (.int .i64 (g k)) ∧ Drawn w' w'') :
    Calls Try.prog 86 #[.int .i64 (n : Int), .func (.func K) #[] caps] w fun e w' => e = .returned (.slice (some ⟨w.heap.size, 0, none⟩) n n) ∧ w'.ownsRow w.heap.size 2 1 (.slice (some ⟨w.heap.size, 0, none⟩) n n) n ((tab n g).map (Value.int .i64)) ∧ Below w.heap.size w w' := by
  obtain ⟨i0, hi, hz0, hz1, hz2⟩ := info_parts (show (Try.prog.info? 2).map (fun i => (i.zero, i.size, i.bytes)) = some (some (.int .i64 0), 1, 8) by kernel_rfl)
  have Hc := Lib.hid hc
  clear hc
  go_enter Try.func86, Try.ntmps86
  go_wp2_with (at_make; refine wpList_make_full _ rfl _ _ 30 rfl w.heap.size 2 i0 (.int .i64 0) 1 (by kernel_rfl) hi hz0 hz1 .i64 .i64 n n n rfl rfl rfl rfl (by rw [hz2]; omega) (by unfold maxLen; omega) (Nat.le_refl _) ?_; intro w1 hown hgrow)
  have hbel : Below w.heap.size w w1 := (Below.refl _ w).grown hgrow (Nat.le_refl _) (by simp)
  have Hown := Lib.hid hown
  have Hbel := Lib.hid hbel
  clear hown hbel hgrow
  go_loopw [10] (fun i wr => ∃ k : Nat, k ≤ n ∧ i = .int .i64 k ∧ wr.ownsRow w.heap.size 2 1 (.slice (some ⟨w.heap.size, 0, none⟩) n n) n ((filled n g k).map (Value.int .i64)) ∧ Below w.heap.size w wr) (fun i _ => n - (intOf i).toNat)
  case atStart =>
    refine ⟨0, Nat.zero_le _, rfl, ?_, Hbel.out⟩
    have h0 := Hown.out
    have e : (madeCells (Value.int .i64 0).cells (n * 1)).toList = (filled n g 0).map (Value.int .i64) := by
      rw [filled_zero, Nat.mul_one, List.map_replicate]
      exact made1 _ n
    rw [e] at h0
    exact h0
  case round =>
    obtain ⟨k, hk, rfl, hown, hb⟩ := hrel
    have Hown := Lib.hid hown
    have Hb := Lib.hid hb
    have hsz := hb.size
    clear hown hb
    by_cases hlt : k < n
    · have Hcall := Lib.hid (Hc.out k wr hlt Hb.out)
      have c2 : wr.cell? ⟨w.heap.size, k, none⟩ = some (.int .i64 0) := by
        rw [Hown.out.cellAt k (by omega), List.getElem?_map, filled_at n g k hlt]; rfl
      have c3 := Hown.out.frozenAt k
      obtain ⟨hs1, _⟩ := Hown.out.stored k (.int .i64 (g k))
      rw [← List.map_set, filled_set n g k hlt] at hs1
      have Hs1 := Lib.hid hs1
      clear hs1
      go_wp2_with (refine (Hcall.out).mono ?_; rintro e w' ⟨rfl, m, rfl⟩)
      go_roundw
      case rel => exact ⟨k + 1, by omega, by go_num, Hs1.out, below_drewN (Hb.out.setCell (Nat.le_refl _) _) _⟩
      case measure => simp [intOf]; omega
    · obtain rfl : k = n := by omega
      go_wp2
      go_ret
      have h0 := Hown.out
      rw [filled_done] at h0
      exact ⟨rfl, h0, Hb.out⟩
set_option maxRecDepth 100000 in
set_option maxHeartbeats 4000000 in
theorem knock_good (p : Nat) (ws : List Bool) (v : Value) (w : World) (hn : ws.length + 1 = p) (h2 : 2 ≤ p) (h16 : p ≤ 16) (hpw : (bits BinOp.and IntKind.i64 (p : Int) ((p : Int) - 1) == 0) = true) (h : Sl Value.bool false w v ws) :
    Calls Try.prog 52 #[v, .int .i64 (p : Int)] w fun e w' => ∃ r, e = .returned (.tuple #[r, .bool true]) ∧ Sw (Value.int .i64) 0 w' r ((cameL p ws ws.length).drop p) w.heap.size w'.heap.size ∧ Below w.heap.size w w' := by
  have Hp := Lib.hid (fun z => players_any (p : Int) z)
  rw [show rB (p : Int) 2 16 = true by unfold rB; rw [decide_eq_true (show (2 : Int) ≤ (p : Int) by omega), decide_eq_true (show (p : Int) ≤ 16 by omega)]; rfl] at Hp
  obtain ⟨i0, hi, hz0, hz1, hz2⟩ := info_parts (show (Try.prog.info? 2).map (fun i => (i.zero, i.size, i.bytes)) = some (some (.int .i64 0), 1, 8) by kernel_rfl)
  have Hd := Lib.hid (deckBy_own p 87 #[] (fun k => (k : Int)) w (by omega) (run_enter Try.func87 (by kernel_rfl) (by kernel_rfl)) (fun k w' _ _ => clo_knock k w'))
  have Hsl := Lib.hid h
  obtain ⟨q, cap, rfl, -⟩ := h
  have Hlen := Lib.hid (cameL_len p ws)
  have Hst := Lib.hid (fun j => show cameL p ws (j + 1) = cameL p ws j ++ [(cameL p ws j).getD (if ws.getD j false = true then 2 * j else 2 * j + 1) 0] from rfl)
  have H0 := Lib.hid (show cameL p ws 0 = tab p (fun k => (k : Int)) from rfl)
  obtain ⟨m, hmm⟩ : ∃ m, m = ws.length := ⟨_, rfl⟩
  rw [← hmm] at hn ⊢
  have Hmm := Lib.hid hmm.symm
  clear hmm
  have hne : ((m : Int) != (p : Int) - 1) = false := by rw [show (p : Int) - 1 = (m : Int) by omega]; simp
  have hne2 : ((m : Int) = (p : Int) - 1) = True := eq_true (by omega)
  go_enter Try.func52, Try.ntmps52
  go_wp2_with (first | (go_at_call 59; refine (Hp.out _).mono ?_; rintro e w' ⟨rfl, rfl⟩) | (go_at_call 86; refine (Hd.out).mono ?_; rintro e w1 ⟨rfl, ho, hb⟩; have Ho := Lib.hid ho; have Hb := Lib.hid hb; clear ho hb))
  have hown0 := Lib.hid (show w1.ownsRow w.heap.size 2 1 (.slice (some ⟨w.heap.size, 0, none⟩) p p) (p + 0) ((cameL p ws 0).map (Value.int .i64)) by rw [H0.out]; exact Ho.out)
  clear Ho Hd Hp
  go_loopw [7, 34] (fun cv i wr => ∃ (k : Nat) (vo : Value), k ≤ m ∧ vo = cv ∧ i = .int .i64 (k : Int) ∧ Hid (wr.ownsRow w.heap.size 2 1 vo (p + k) ((cameL p ws k).map (Value.int .i64))) ∧ Hid (Below w.heap.size w wr)) (fun _ i _ => m - (intOf i).toNat)
  case atStart => exact ⟨0, _, Nat.zero_le _, rfl, rfl, hown0, Hb⟩
  case round =>
    obtain ⟨k, vo, hk, rfl, rfl, Hown, Hb⟩ := hrel
    have hsz := Hb.out.size
    obtain ⟨g, cap', rfl, hcp, hgs⟩ : ∃ g cap', vo = .slice (some ⟨g, 0, none⟩) (p + k) cap' ∧ p + k ≤ cap' ∧ w.heap.size ≤ g ∧ g < wr.heap.size := by
      rcases Hown.out.2 with ⟨e, hz⟩ | ⟨g, cap', cur, e, hb', hg', hnc, _⟩
      · exfalso
        omega
      · exact ⟨g, cap', e, hnc, hb', (Hown.out.lt g (by rw [e]; rfl)).2⟩
    by_cases hlt : k < m
    · obtain ⟨q', cq, e1, hf⟩ := Hsl.out
      rw [Hmm.out] at e1
      cases e1
      obtain ⟨hcap, b, off, rfl, hbs, hc⟩ := hf (by rw [Hmm.out]; omega)
      have c1 := cell_keep Hb.out (hc k (by rw [Hmm.out]; exact hlt))
      have hl := Hlen.out k
      have d0 : wr.cell? ⟨g, 2 * k, none⟩ = some (.int .i64 ((cameL p ws k).getD (2 * k) 0)) := by
        rw [Hown.out.cellAt (2 * k) (by omega), List.getElem?_map, List.getElem?_eq_getElem (by omega), getD_lt _ 0 _ (by omega)]; rfl
      have d1 : wr.cell? ⟨g, 2 * k + 1, none⟩ = some (.int .i64 ((cameL p ws k).getD (2 * k + 1) 0)) := by
        rw [Hown.out.cellAt (2 * k + 1) (by omega), List.getElem?_map, List.getElem?_eq_getElem (by omega), getD_lt _ 0 _ (by omega)]; rfl
      have hst := Hst.out k
      clear hc hf hl
      obtain ⟨A, hA⟩ : ∃ A, A = (cameL p ws k).getD (2 * k) 0 := ⟨_, rfl⟩
      obtain ⟨B, hB⟩ : ∃ B, B = (cameL p ws k).getD (2 * k + 1) 0 := ⟨_, rfl⟩
      rw [← hA] at d0
      rw [← hB] at d1
      cases hw : ws.getD k false
      · rw [hw] at c1 hst
        rw [if_neg Bool.false_ne_true, ← hB] at hst
        have HE := Lib.hid (show (cameL p ws k).map (Value.int .i64) ++ [.int .i64 B] = (cameL p ws (k + 1)).map (Value.int .i64) by rw [hst, List.map_append]; rfl)
        clear hst hw hA hB
        go_wp2_with (at_builtin; refine wpList_append_own _ rfl _ _ 30 rfl w.heap.size 2 i0 (.int .i64 0) 1 8 (by kernel_rfl) hi hz0 hz1 hz2 rfl (by decide) _ _ _ rfl (Hown.out.alloc _) ⟨wr.heap.size, 0, none⟩ 1 1 [.int .i64 B] rfl rfl (cell_one_new _ _ _) (one_int _) (by unfold maxLen; omega) (by omega) (by simp; omega) ?_; intro v2 w2 hown2 hgrow2 _)
        rw [HE.out] at hown2
        have Hown2 := Lib.hid hown2
        have Hb2 := Lib.hid ((Hb.out.alloc (by omega) _).grown hgrow2 (by simp; omega) (fun b hb => (Hown.out.lt b hb).1))
        clear hown2 hgrow2
        go_wp2
        go_roundw
        case rel => exact ⟨k + 1, v2, by omega, rfl, by go_num, Hown2, Hb2⟩
        case measure => simp [intOf]; omega
      · rw [hw] at c1 hst
        rw [if_pos rfl, ← hA] at hst
        have HE := Lib.hid (show (cameL p ws k).map (Value.int .i64) ++ [.int .i64 A] = (cameL p ws (k + 1)).map (Value.int .i64) by rw [hst, List.map_append]; rfl)
        clear hst hw hA hB
        go_wp2_with (at_builtin; refine wpList_append_own _ rfl _ _ 30 rfl w.heap.size 2 i0 (.int .i64 0) 1 8 (by kernel_rfl) hi hz0 hz1 hz2 rfl (by decide) _ _ _ rfl (Hown.out.alloc _) ⟨wr.heap.size, 0, none⟩ 1 1 [.int .i64 A] rfl rfl (cell_one_new _ _ _) (one_int _) (by unfold maxLen; omega) (by omega) (by simp; omega) ?_; intro v2 w2 hown2 hgrow2 _)
        rw [HE.out] at hown2
        have Hown2 := Lib.hid hown2
        have Hb2 := Lib.hid ((Hb.out.alloc (by omega) _).grown hgrow2 (by simp; omega) (fun b hb => (Hown.out.lt b hb).1))
        clear hown2 hgrow2
        go_wp2
        go_roundw
        case rel => exact ⟨k + 1, v2, by omega, rfl, by go_num, Hown2, Hb2⟩
        case measure => simp [intOf]; omega
    · obtain rfl : k = m := by omega
      have hcq : (cap' = p) = False := eq_false (by omega)
      have HS : Hid (Sw (Value.int .i64) 0 wr (.slice (some ⟨g, p, none⟩) k (cap' - p)) ((cameL p ws k).drop p) w.heap.size wr.heap.size) := Lib.hid (by
        have hl : ((cameL p ws k).drop p).length = k := by rw [List.length_drop, Hlen.out]; omega
        refine ⟨_, _, by rw [hl], fun h0 => ⟨by rw [hl]; omega, g, p, rfl, hgs.1, hgs.2, Nat.le_refl _, fun i hi2 => ⟨?_, Hown.out.frozenAt _⟩⟩⟩
        rw [hl] at hi2
        rw [Hown.out.cellAt (p + i) (by omega), List.getElem?_map, List.getElem?_eq_getElem (by rw [Hlen.out]; omega)]
        simp only [List.getD, List.getElem?_drop]
        rw [List.getElem?_eq_getElem (by rw [Hlen.out]; omega)]
        rfl)
      clear Hst H0 Hlen Hsl hown0
      go_wp2
      go_ret2
      exact ⟨_, rfl, HS.out, Hb.out⟩
theorem pow_eq (P : Int) (h1 : 2 ≤ P) (h2 : P ≤ 16) : (bits BinOp.and IntKind.i64 P (P - 1) == 0) = upB P := by
  rcases (show P = 2 ∨ P = 3 ∨ P = 4 ∨ P = 5 ∨ P = 6 ∨ P = 7 ∨ P = 8 ∨ P = 9 ∨ P = 10 ∨ P = 11 ∨ P = 12 ∨ P = 13 ∨ P = 14 ∨ P = 15 ∨ P = 16 by omega) with rfl | rfl | rfl | rfl | rfl | rfl | rfl | rfl | rfl | rfl | rfl | rfl | rfl | rfl | rfl <;> decide +kernel
theorem upB_at {P : Int} (h : upB P = true) : 2 ≤ P ∧ P ≤ 16 := by
  have := of_decide_eq_true h
  omega
set_option maxRecDepth 100000 in
set_option maxHeartbeats 4000000 in
theorem impl_KnockRounds (ws : List Bool) (v : Value) (P : Int) (al : -9223372036854775808 ≤ P) (au : P ≤ 9223372036854775807) (w : World) (hn : ws.length ≤ 1048576) (h : Sl Value.bool false w v ws) :
    Calls Try.prog 52 #[v, .int .i64 P] w fun e w' => ∃ r, e = .returned (.tuple #[r, .bool (ok_KnockRounds ws P)]) ∧ Sw (Value.int .i64) 0 w' r (res_KnockRounds ws P) w.heap.size w'.heap.size ∧ Below w.heap.size w w' := by
  unfold ok_KnockRounds res_KnockRounds
  have Hp := Lib.hid (fun z => players_any P z)
  cases hk : knB ws P
  · rw [if_neg Bool.false_ne_true]
    obtain ⟨q, cap, rfl, -⟩ := h
    generalize hm : ws.length = m at *
    cases hr : rB P 2 16
    · rw [hr] at Hp
      clear hk hr
      go_enter Try.func52, Try.ntmps52
      go_wp2_with (refine (Hp.out _).mono ?_; rintro e w' ⟨rfl, rfl⟩)
      go_ret2
      exact ⟨_, rfl, Sw.nil _ _ _ _ _ _ _, Below.refl _ _⟩
    rw [hr] at Hp
    obtain ⟨h1, h2⟩ := rB_yes hr
    have hpe := pow_eq P h1 h2
    cases hu : upB P
    · rw [hu] at hpe
      clear hk hr hu
      go_enter Try.func52, Try.ntmps52
      go_wp2_with (refine (Hp.out _).mono ?_; rintro e w' ⟨rfl, rfl⟩)
      go_ret2
      exact ⟨_, rfl, Sw.nil _ _ _ _ _ _ _, Below.refl _ _⟩
    rw [hu] at hpe
    have hmp : ¬ (m : Int) = P - 1 := by
      intro hx
      unfold knB at hk
      rw [hu, hm, decide_eq_true hx] at hk
      cases hk
    have hne : ((m : Int) != P - 1) = true := bne_iff_ne.2 hmp
    have hne2 : ((m : Int) = P - 1) = False := eq_false hmp
    clear hk hr hu hmp
    go_enter Try.func52, Try.ntmps52
    go_wp2_with (refine (Hp.out _).mono ?_; rintro e w' ⟨rfl, rfl⟩)
    go_ret2
    exact ⟨_, rfl, Sw.nil _ _ _ _ _ _ _, Below.refl _ _⟩
  rw [if_pos rfl]
  unfold knB at hk
  rw [Bool.and_eq_true] at hk
  obtain ⟨hu, hm⟩ := hk
  have hm := of_decide_eq_true hm
  obtain ⟨h1, h2⟩ := upB_at hu
  obtain ⟨p, rfl⟩ : ∃ p : Nat, P = (p : Int) := ⟨P.toNat, by omega⟩
  rw [Int.toNat_natCast]
  exact knock_good p ws v w (by omega) (by omega) (by omega) ((pow_eq _ h1 h2).trans hu) h
end Go.Proofs.Ytfipcpbibmhjoaa
