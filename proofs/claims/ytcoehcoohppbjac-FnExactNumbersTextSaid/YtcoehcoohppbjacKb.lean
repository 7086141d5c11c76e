/- Lists of 32-bit numbers, told up to which not-a-number: comparisons and marks of the exact laws. -/
import Derived.Test.YtcoehcoohppbjacNum
import Derived.Test.YtcoehcoohppbjacFm
import Derived.Test.YtcoehcoohppbjacLk
import Derived.Deep.RegionWith
set_option linter.unusedVariables false
namespace Go.Proofs.Ytcoehcoohppbjac
open Go.RowKit Fl

@[go_sem] theorem run_store_f (P : Program) (w : World) (a : Addr) (m : Mode) (k : FloatKind) (b : Nat) : (store a (.float k b) m).run P w = stored P w a (.float k b) m := run_store P w a _ m rfl
/-- v is a slice of numbers that read as C, all not-a-numbers told as one -/
def SlF (w : World) (v : Value) (C : List Nat) : Prop := ∃ gs, gs.map (cn .f32) = C ∧ Sl (Value.float .f32) 0 w v gs
def SwF (w : World) (v : Value) (C : List Nat) (lo hi : Nat) : Prop := ∃ gs, gs.map (cn .f32) = C ∧ Sw (Value.float .f32) 0 w v gs lo hi
theorem SlF.later {w w' : World} {v : Value} {C : List Nat} (h : SlF w v C) (hb : Below w.heap.size w w') : SlF w' v C := by
  obtain ⟨gs, e, h⟩ := h; exact ⟨gs, e, h.later hb⟩
theorem SwF.later {w w' : World} {v : Value} {C : List Nat} {lo hi : Nat} (h : SwF w v C lo hi) (hb : Below w.heap.size w w') : SwF w' v C lo hi := by
  obtain ⟨gs, e, h⟩ := h; exact ⟨gs, e, h.later hb⟩
theorem SwF.sl {w : World} {v : Value} {C : List Nat} {lo hi : Nat} (h : SwF w v C lo hi) : SlF w v C := by
  obtain ⟨gs, e, h⟩ := h; exact ⟨gs, e, h.sl⟩
theorem SwF.apart {w w' : World} {v : Value} {C : List Nat} {lo hi l2 h2 : Nat} (h : SwF w v C lo hi) (g : Only l2 h2 w w') (ha : hi ≤ l2 ∨ h2 ≤ lo) : SwF w' v C lo hi := by
  obtain ⟨gs, e, h⟩ := h; exact ⟨gs, e, h.apart g ha⟩
theorem SwF.still {w w' : World} {v : Value} {C : List Nat} {lo hi : Nat} (h : SwF w v C lo hi) (g : Only 0 0 w w') : SwF w' v C lo hi := by
  obtain ⟨gs, e, h⟩ := h; exact ⟨gs, e, h.still g⟩
theorem SwF.nil (w : World) (p : Option Addr) (cap lo hi : Nat) : SwF w (.slice p 0 cap) [] lo hi := ⟨[], rfl, Sw.nil _ _ _ _ _ _ _⟩

set_option maxRecDepth 100000 in
set_option maxHeartbeats 400000 in
theorem eqF_any (C : List Nat) (v u : Value) (w : World) (hn : C.length ≤ 1048576) (h : SlF w v C) (g : SlF w u C) :
    Calls Try.prog 9 #[v, u] w fun e w' => e = .returned (.bool true) ∧ Only 0 0 w w' := by
  obtain ⟨gs, eg, h⟩ := h
  obtain ⟨hs, eh, g⟩ := g
  obtain ⟨p, cap, rfl, hf⟩ := h
  obtain ⟨q, cap', rfl, hg⟩ := g
  have Hf := Lib.hid hf
  have Hg := Lib.hid hg
  have l1 : gs.length = C.length := by rw [← eg, List.length_map]
  have l2 : hs.length = C.length := by rw [← eh, List.length_map]
  have HS : Hid (∀ k, k < C.length → SameF .f32 (gs.getD k 0) (hs.getD k 0)) := Lib.hid (fun k hk => by
    have a1 : cn .f32 (gs.getD k 0) = C.getD k 0 := by rw [← eg]; simp [List.getD, show k < gs.length by omega]
    have a2 : cn .f32 (hs.getD k 0) = C.getD k 0 := by rw [← eh]; simp [List.getD, show k < hs.length by omega]
    show cn .f32 _ = cn .f32 _
    rw [a1, a2])
  clear hf hg eg eh
  rw [l1] at Hf ⊢
  rw [l2] at Hg ⊢
  clear l1 l2
  generalize C.length = n at *
  have hne : ((n : Int) != (n : Int)) = false := by simp
  go_enter Try.func9, Try.ntmps9
  go_wp2
  go_loopw [5] (fun i wr => ∃ k q : Nat, k ≤ n ∧ i = .int .i64 k ∧ wr = w.drewN q) (fun i _ => n - (intOf i).toNat)
  case atStart => exact ⟨0, 0, Nat.zero_le _, rfl, rfl⟩
  case round =>
    obtain ⟨k, dn, hk, rfl, rfl⟩ := hrel
    by_cases hlt : k < n
    · obtain ⟨hcap, b, off, rfl, hbs, hc⟩ := Hf.out (by omega)
      obtain ⟨hcap', b', off', rfl, hbs', hc'⟩ := Hg.out (by omega)
      have c1 := hc k hlt
      have c2 := hc' k hlt
      have Hss := Lib.hid (HS.out k hlt)
      clear hc hc'
      generalize gs.getD k 0 = x at *
      generalize hs.getD k 0 = y at *
      go_wp2
      go_region_with (first | (refine upon_fconv _ _ .f32 .f64 (by kernel_rfl) (by kernel_rfl) _ ?_; intro r n hr) | (go_at_call 24; refine (sameFloat_any _ _ (SameF.wide (a := x) (b := y) Hss.out (by assumption) (by assumption)) _).mono ?_; rintro e w' ⟨rfl, n, rfl⟩))
      all_goals (go_wp2; go_roundw)
      all_goals first | exact ⟨k + 1, _, by omega, by go_num, rfl⟩ | (simp [intOf]; omega)
    · obtain rfl : k = n := by omega
      go_wp2
      go_ret
      exact ⟨rfl, Only.ofDraws _ _⟩

def marksF (a n : Nat) : List Nat := (List.range n).map fun i : Nat => floatOfInt .f32 ((a : Int) + (i : Int))
theorem marksF_len (a n : Nat) : (marksF a n).length = n := by simp [marksF]
theorem marksF_succ (a n : Nat) : marksF a (n + 1) = marksF a n ++ [floatOfInt .f32 ((a : Int) + (n : Int))] := by unfold marksF; rw [List.range_succ, List.map_append]; rfl
theorem marksF_get (a n : Nat) (d : Nat) (k : Nat) (h : k < n) : (marksF a n).getD k d = floatOfInt .f32 ((a : Int) + (k : Int)) := by simp [marksF, List.getD, h]
theorem ofInt_notNan (n : Int) : isNan .f32 (floatOfInt .f32 n) = false := by
  have hw : floatOfInt .f32 n = FloatKind.f32.format.word (decide (n < 0)) (rg FloatKind.f32.format n.natAbs 0) := by
    show FloatKind.f32.encode (.number (decide (n < 0)) n.natAbs 0) = _
    exact write_rg .f32 _ _ _
  rw [hw]
  exact read_word _ _ (nearest_false_le _ _ _)
theorem ofInt_self (n : Int) : (FloatKind.f32.format.order (floatOfInt .f32 n) (floatOfInt .f32 n) == some .eq) = true := by
  rw [order_self_eq, ofInt_notNan]; rfl
theorem ofInt_ne (n : Int) : (FloatKind.f32.format.order (floatOfInt .f32 n) (floatOfInt .f32 n) != some .eq) = false := by
  unfold bne; rw [ofInt_self]; rfl


