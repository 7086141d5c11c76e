/- Contracts: races, the program: the closure, a key deleted. -/
import Derived.Test.YtodmaomngpnboaaMw
set_option linter.unusedVariables false
namespace Go.Proofs.Ytodmaomngpnboaa
open Go.RowKit Go.Maps

/-- the squares that are left behind a throw of j + 1 -/
def leftI (s j : Nat) : Int := max ((s : Int) - ((j : Int) + 1)) 0
theorem leftI_bd (s j : Nat) : 0 ≤ leftI s j ∧ leftI s j ≤ s := by unfold leftI; omega
def raceM (s i : Nat) (k : Int) : Int := sumA (fun j => if leftI s j = k then 1 else 0) i
theorem raceM_bd (s i : Nat) (k : Int) : 0 ≤ raceM s i k ∧ raceM s i k ≤ i := by
  induction i with
  | zero => exact ⟨Int.le_refl _, Int.le_refl _⟩
  | succ i ih => unfold raceM at *; rw [sA_succ]; split <;> omega
theorem raceM_succ (s i : Nat) (k : Int) : raceM s (i + 1) k = raceM s i k + (if leftI s i = k then 1 else 0) := rfl
/-- without those that are there -/
def cut0 (f : Int → Int) (k : Int) : Int := if k = 0 then 0 else f k
theorem TV.cut {w : World} {b n N : Nat} {D : DataW Unit} {f : Int → Int} (h1 : w.ownsMap Try.prog 2 (plainElem (H := Unit) Try.prog 2) b n (D.del (.int .i64 0)))
    (h2 : ∀ k : Int, D.atKey (.int .i64 k) (.lit (.int .i64 0)) = .lit (.int .i64 (f k))) (h3 : ∀ kl : Lit, Maps.has D kl = true → ∃ k : Nat, kl = .int .i64 (k : Int) ∧ k < N) : TV w b n N (cut0 f) := by
  refine ⟨_, h1, fun k => ?_, fun kl hk => ?_⟩
  · unfold cut0
    by_cases e : k = 0
    · subst e; rw [if_pos rfl]; exact atKey_del_same _
    · rw [if_neg e, atKey_del_other (int_ne e)]; exact h2 k
  · by_cases e : kl = .int .i64 0
    · subst e; rw [has_del_same] at hk; cases hk
    · rw [has_del_other e] at hk; exact h3 kl hk
set_option maxRecDepth 100000 in
set_option maxHeartbeats 1000000 in
theorem clo_race (F B s N : Nat) (w : World) (hF : F ≤ 100) (hs : s ≤ 1000) (hN : s < N) (c1 : w.cell? ⟨B, 0, none⟩ = some (.int .i64 (F : Int))) :
    Calls Try.prog 131 #[.int .i64 (s : Int), .pointer (some ⟨B, 0, none⟩)] w fun e w' => ∃ bm, e = .returned (.map (some bm)) ∧ TV w' bm 1000 N (raceM s F) ∧ w.heap.size ≤ bm ∧ Below w.heap.size w w' := by
  have Hst := Lib.hid (fun i k => raceM_succ s i k)
  have Hbd := Lib.hid (fun i k => raceM_bd s i k)
  have Hz : Hid (∀ k, raceM s 0 k = 0) := Lib.hid (fun _ => rfl)
  have hB : B < w.heap.size := World.block_lt_of_cell? _ _ c1
  have Hl := Lib.hid (fun j => (show leftI s j = max ((s : Int) - ((j : Int) + 1)) 0 from rfl))
  have Hlb := Lib.hid (fun j => leftI_bd s j)
  have C1 := Lib.hid c1
  have hmm := @run_makeMap Try.prog
  clear c1
  go_enter Try.func131, Try.ntmps131
  go_wp2
  clear hmm
  go_loopw [5] (fun i wr => ∃ j : Nat, j ≤ F ∧ i = .int .i64 ((j : Int) + 1) ∧ TV wr w.heap.size j N (raceM s j) ∧ w.heap.size < wr.heap.size ∧ Hid (Below w.heap.size w wr)) (fun i _ => F + 1 - (intOf i).toNat)
  case atStart => exact ⟨0, Nat.zero_le _, rfl, (TV.made w N).congr (fun k => (Hz.out k).symm), by simp, Lib.hid ((Below.refl _ w).alloc (Nat.le_refl _) _)⟩
  case round =>
    obtain ⟨j, hj, rfl, htv, hsz, hb⟩ := hrel
    have e1 := cell_keep hb.out C1.out
    by_cases hlt : j < F
    · have hst := Hst.out j
      obtain ⟨D, hown, hat, hks⟩ := htv
      have Hat := Lib.hid hat
      obtain ⟨a0, a1⟩ := Hlb.out j
      obtain ⟨v0, v1⟩ := Hbd.out j (leftI s j)
      have hatX := hat (leftI s j)
      have hX0 : Hid (raceM s j (leftI s j) = raceM s j (leftI s j)) := Lib.hid rfl
      generalize hX : raceM s j (leftI s j) = X at hatX v0 v1
      have HX := Lib.hid hX
      rw [Hl.out j] at hst a0 a1 hatX HX
      have Hks := Lib.hid hks
      have hwy : (Lit.int .i64 (max ((s : Int) - ((j : Int) + 1)) 0)).wf = true := WalkArith.wf_i64 (by omega)
      have Hst2 := Lib.hid hst
      clear hX hat hks hst hX0
      go_wp2_with (first
        | (at_lookup; refine wpList_lookup_own_int _ rfl _ _ 119 rfl 2 2 .i64 lawI Try.underlying119 Try.underlying2 (zeroI _) w.heap.size j D rfl hown _ _ rfl (keyOf_int_mk Try.underlying2 hwy) ?_; intro v hatv hwv; obtain rfl : v = X := (by rw [hatX] at hatv; injection hatv with h; injection h with _ h; exact h.symm))
        | (at_mapUpdate; refine wpList_mapUpdate_own _ rfl _ _ _ 119 rfl 2 2 lawI Try.underlying119 _ w.heap.size j D rfl hown (by unfold maxLen; omega) _ _ _ rfl rfl (keyOf_int_mk Try.underlying2 hwy) _ [] (plainElem_int Try.underlying2 (WalkArith.wf_i64 (by omega))) ?_; intro w5 hown5 hg5; go_frame)
        | go_in)
      have hz5 := hg5.size
      go_roundw
      case rel =>
        refine ⟨j + 1, by omega, by go_num, ⟨_, hown5, fun k => ?_, fun k => put_keys hown.isMap Hks.out (max ((s : Int) - ((j : Int) + 1)) 0) _ (by omega) (by omega) k⟩, by omega, Lib.hid (hb.out.grown hg5 (by have := hb.out.size; omega) (fun i hi => by cases hi; exact Nat.le_refl _))⟩
        rw [put_reads hown.isMap Hat.out (max ((s : Int) - ((j : Int) + 1)) 0) _ k]
        congr 2
        unfold upd
        rw [Hst2.out k]
        by_cases e : k = max ((s : Int) - ((j : Int) + 1)) 0
        · subst e; rw [if_pos rfl, if_pos rfl, HX.out]
        · rw [if_neg e, if_neg (fun h => e h.symm), Int.add_zero]
      case measure => simp [intOf]; omega
    · obtain rfl : j = F := by omega
      go_wp2
      go_ret
      exact ⟨_, rfl, htv.mono (by omega) (Nat.le_refl _), Nat.le_refl _, hb.out⟩
end Go.Proofs.Ytodmaomngpnboaa
