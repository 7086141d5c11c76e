/- Contracts: values of rows of pins: SplitValues, in both texts. -/
import Derived.Test.YtodmaomngpnboaaYe
import Derived.Deep.RegionHeld3
import Derived.Deep.RegionLawGrows
import Derived.Deep.AppendLies
import Derived.WalkSpells
import Derived.StillTactics
set_option linter.unusedVariables false
namespace Go.Proofs.Ytodmaomngpnboaa
open Go.RowKit

theorem own_neY {w : World} {base : Nat} {e : TypeId} {size : Nat} {v : Value} {n b : Nat} {xs : List Value} (h : w.ownsRow base e size v n xs) (hb : b < base) : v.ownBlock ≠ some b := fun e => absurd (h.lt b e).1 (by omega)
def accA (vs : List Int) (n : Nat) : Nat → List Int
  | 0 => []
  | t + 1 => leftS (accA vs n t) vs n (t + 1) (n - t)
theorem accA_two (vs : List Int) (n : Nat) : accA vs n 2 = leftA vs n := rfl
theorem accA_len (vs : List Int) (n : Nat) : ∀ t, (accA vs n t).length ≤ t * n
  | 0 => Nat.zero_le _
  | t + 1 => by
    have := accA_len vs n t
    rw [accA, leftS_len, Nat.succ_mul]; omega
set_option maxRecDepth 100000 in
set_option maxHeartbeats 4000000 in
theorem clo_split (vs : List Int) (v : Value) (w : World) (hvl : vs.length ≤ 100) (hv : Sl (Value.int .i64) 0 w v vs) :
    Calls Try.prog 93 #[v] w fun e w' => ∃ r, e = .returned r ∧ Sl (Value.int .i64) 0 w' r (leftA vs vs.length) ∧ Below w.heap.size w w' := by
  obtain ⟨i0, hi, hz0, hz1, hz2⟩ := info_parts (show (Try.prog.info? 2).map (fun i => (i.zero, i.size, i.bytes)) = some (some (.int .i64 0), 1, 8) by kernel_rfl)
  obtain ⟨q, cap', rfl, hg⟩ := hv
  have Hg := Lib.hid hg
  have HA0 := Lib.hid (show accA vs vs.length 0 = [] from rfl)
  have HA := Lib.hid (fun t => show accA vs vs.length (t + 1) = leftS (accA vs vs.length t) vs vs.length (t + 1) (vs.length - t) from rfl)
  have HS0 := Lib.hid (fun acc t => show leftS acc vs vs.length t 0 = acc from rfl)
  have HS := Lib.hid (fun acc t i => show leftS acc vs vs.length t (i + 1) = leftS acc vs vs.length t i ++ [bits .xor .i64 (vs.getD i 0) (vs.getD (vs.length - t - i) 0)] from rfl)
  have HSl := Lib.hid (fun acc t i => leftS_len acc vs vs.length t i)
  have HAl := Lib.hid (accA_len vs vs.length)
  have HD := Lib.hid (accA_two vs vs.length)
  clear hg
  generalize leftA vs vs.length = R at *
  generalize accA vs vs.length = A at *
  generalize hLS : leftS = LS at *
  clear hLS
  obtain ⟨n, hn1⟩ : ∃ n, n = vs.length := ⟨_, rfl⟩
  rw [← hn1] at hvl Hg HA HS0 HS HSl HAl
  rw [← hn1]
  clear hn1
  go_enter Try.func93, Try.ntmps93
  go_wp2
  go_loopw [3, 4] (fun l i wr => ∃ (t : Nat) (lv : Value), lv = l ∧ t ≤ 2 ∧ i = .int .i64 ((t : Int) + 1) ∧ Hid (wr.ownsRow w.heap.size 2 1 l (A t).length ((A t).map (Value.int .i64))) ∧ Hid (Below w.heap.size w wr)) (fun _ i _ => 4 - (intOf i).toNat)
  case atStart => exact ⟨0, _, rfl, by omega, by go_num, Lib.hid (by rw [HA0.out]; exact World.ownsRow_nil _ _ _ _), Lib.hid (Below.refl _ _)⟩
  case round =>
    obtain ⟨wo, rfl⟩ : ∃ z, z = wr := ⟨_, rfl⟩
    obtain ⟨t, lv, rfl, ht, rfl, hown, hbo⟩ := hrel
    have hsz := hbo.out.size
    obtain ⟨T, hT⟩ : ∃ T : Nat, T = t + 1 := ⟨_, rfl⟩
    have hT2 : (t : Int) + 1 = (T : Int) := by omega
    rw [hT2]
    by_cases hlt : t < 2
    · have hal := HAl.out t
      have hal2 : (A t).length ≤ 200 := by
        obtain rfl | rfl : t = 0 ∨ t = 1 := by omega
        · omega
        · omega
      have HAt := Lib.hid (HA.out t)
      rw [← hT] at HAt
      have HTt := Lib.hid (show ((T : Int)) + 1 = ((t + 1 : Nat) : Int) + 1 by omega)
      have HtT := Lib.hid hT
      have hT1 : 1 ≤ T := by omega
      have hT3 : T ≤ 2 := by omega
      have d1 : decide ((T : Int) ≤ 2) = true := decide_eq_true (by omega)
      have d2 : decide (T ≤ 2) = true := decide_eq_true (by omega)
      have hown0 := Lib.hid (show wo.ownsRow w.heap.size 2 1 lv (LS (A t) vs n T 0).length ((LS (A t) vs n T 0).map (Value.int .i64)) by rw [HS0.out]; exact hown.out)
      have Hst := Lib.hid (HS.out (A t) T)
      have Hsl := Lib.hid (HSl.out (A t) T)
      have Hnt := Lib.hid (show n - t = n + 1 - T by omega)
      clear hown hT hT2 hal
      generalize A t = At at *
      generalize LS At vs n T = L at *
      by_cases hc : T ≤ n + 1
      · obtain ⟨M, hM⟩ : ∃ M : Nat, M = n + 1 - T := ⟨_, rfl⟩
        have hMI : (n : Int) - (T : Int) + 1 = (M : Int) := by omega
        have hMn : M + T = n + 1 := by omega
        have HM := Lib.hid hM
        clear hM
        go_wp2
        go_loopw [3, 15] (fun l i wz => ∃ (j : Nat) (lw : Value), lw = l ∧ j ≤ M ∧ i = .int .i64 (j : Int) ∧ Hid (wz.ownsRow w.heap.size 2 1 l (L j).length ((L j).map (Value.int .i64))) ∧ Hid (Below w.heap.size w wz)) (fun _ i _ => M - (intOf i).toNat)
        case atStart => exact ⟨0, _, rfl, Nat.zero_le _, rfl, hown0, hbo⟩
        case round =>
          obtain ⟨j, lw, rfl, hj, rfl, hown, hbw⟩ := hrel
          have hsw := hbw.out.size
          by_cases hltj : j < M
          · obtain ⟨hcap, b, off, rfl, hbs, hcell⟩ := Hg.out (by omega)
            obtain ⟨r, hr⟩ : ∃ r : Nat, r = n - T - j := ⟨_, rfl⟩
            have hrn : r < n := by omega
            have c1 := cell_keep hbw.out (hcell j (by omega))
            have c2 := cell_keep hbw.out (hcell r hrn)
            have hst := Hst.out j
            rw [← hr] at hst
            have Hst2 := Lib.hid hst
            have hsl := Hsl.out j
            have hsb : (L j).length ≤ 400 := by omega
            have e1 : (n : Int) - (T : Int) - (j : Int) = (r : Int) := by omega
            have hw1 : IntKind.i64.wrap ((n : Int) - (T : Int)) = (n : Int) - (T : Int) := IntWalk.i64_in _ (by omega)
            have hw2 : IntKind.i64.wrap ((n : Int) - (T : Int) - (j : Int)) = (r : Int) := by rw [e1]; exact IntWalk.i64_in _ (by omega)
            have hjn : j < n := by omega
            clear hcell hst hsl hr e1
            generalize vs.getD j 0 = x at *
            generalize vs.getD r 0 = y at *
            generalize L j = Lj at *
            have hob := own_neY hown.out hbs
            have hj0 : (0 : Int) ≤ (j : Int) := Int.natCast_nonneg _
            have hj1 : (j : Int) < (n : Int) := by omega
            have hr0 : (0 : Int) ≤ (r : Int) := Int.natCast_nonneg _
            have hr1 : (r : Int) < (n : Int) := by omega
            have hcap2 : (n : Int) ≤ (cap' : Int) := by omega
            have hmax : Lj.length + 1 ≤ maxLen := by unfold maxLen; omega
            have hby : (Lj.length + 1) * 8 ≤ 140737488355328 := by omega
            have hsx : w.heap.size ≤ wr.heap.size + 1 := by omega
            go_wp2_with fail
            go_region_law ((refine step_append_lies _ (by rfl) _ _ _ (by rfl) w.heap.size 2 i0 _ 1 8 (by kernel_rfl) hi hz0 hz1 hz2 rfl (by omega) _ Lj.length _ (by rfl) ((hown.out.alloc _).drew) ⟨wr.heap.size, 0, none⟩ 1 1 [.int .i64 (bits .xor .i64 x y)] (by rfl) (by rfl) (cell_one_new _ _ _) (one_int _) (by omega) hmax hby (by first | (simp; exact hsx) | simp) (wr.heap.size + 1) (by simp) ?_; intro g cp w2 hown2 hgrow hat hlt2))
            all_goals
              have Hown2 := Lib.hid (own_addY hown2)
              have Hb2 := Lib.hid (((hbw.out.alloc (by omega) _).drew).grown hgrow (by first | (simp; exact hsx) | simp) (fun b hb => (hown.out.lt b hb).1))
              clear hown2 hgrow hw1 hw2 hat
              go_wp2
              go_roundw
              case rel => exact ⟨j + 1, _, rfl, by omega, by go_num, Lib.hid (by rw [Hst2.out]; exact Hown2.out), Hb2⟩
              case measure => simp [intOf]; omega
          · obtain rfl : j = M := by omega
            have HAn := Lib.hid (show A (t + 1) = L j by rw [← HtT.out, HAt.out, Hnt.out, HM.out])
            go_wp2
            go_roundw
            case rel => exact ⟨t + 1, _, rfl, by omega, by rw [← HTt.out], Lib.hid (by rw [HAn.out]; exact hown.out), hbw⟩
            case measure => simp [intOf]; omega
      · have hn0 : n = 0 := by omega
        subst hn0
        obtain rfl : T = 2 := by omega
        have HAn := Lib.hid (show A (t + 1) = L 0 by rw [← HtT.out, HAt.out, Nat.zero_sub])
        go_wp2
        go_loopw [3, 15] (fun l i wz => l = lv ∧ i = .int .i64 0 ∧ wz = wo) (fun _ i _ => 0)
        case atStart => exact ⟨rfl, rfl, rfl⟩
        case round =>
          obtain ⟨rfl, rfl, rfl⟩ := hrel
          go_wp2
          go_roundw
          case rel => exact ⟨t + 1, _, rfl, by omega, by first | (rw [← HTt.out]; done) | (rw [← HTt.out]; rfl), Lib.hid (by rw [HAn.out]; exact hown0.out), hbo⟩
          case measure => first | (simp [intOf]; done) | (simp [intOf]; omega)
    · obtain rfl : t = 2 := by omega
      obtain rfl : T = 3 := by omega
      go_wp2
      go_ret
      exact ⟨_, rfl, (Sw.of_owns (by rw [← HD.out]; exact hown.out) rfl).sl, hbo.out⟩
end Go.Proofs.Ytodmaomngpnboaa
